/- For every draw (none longer than 1048576 bytes is looked at), FnPoints answers true: a mirror exchanges left and right, and used twice it changes no point. The card ties the library's tables to the program's text; no other condition. -/
import Derived.Test.YtgblbilohmnlpaaDoorPtD
import Derived.Test.YtgblbilohmnlpaaDoorAtC
import Derived.Test.YtgblbilohmnlpaaDoorPtI
import Derived.Test.YtgblbilohmnlpaaDoorPtTextC
import Derived.Test.YtgblbilohmnlpaaDoorPtQ
import Derived.Test.YtgblbilohmnlpaaDoorTextP
import Derived.Test.YtgblbilohmnlpaaDoorLaidC
import Derived.Test.YtgblbilohmnlpaaDoorRows
import Derived.Test.YtgblbilohmnlpaaDoorCards
import Derived.Test.YtgblbilohmnlpaaDoorTie
import Derived.LaidMore
import Derived.Stop.Joined
import Derived.SevenTiedAt
import Derived.WalkKit
import Derived.ProofKit
import Derived.OpenShut
import Derived.ShutString
import Derived.ChangeOld
import Derived.Below
namespace Go.Proofs.YtgblbilohmnlpaaDoor.fnPoints
open Go.ChangeShapes Go.WideShapes Go.ChangeAt Go.RowKit
open Go.ChangeMaps (open_string shut_string)
set_option linter.unusedVariables false

theorem own : ownKnob Tryd.prog.godebug = none := by kernel_rfl
theorem laidOut : laidOutB Tryd.prog = true := by kernel_rfl

/-- WHAT THE WALK IS TOLD OF A SLICE OF INTEGERS THAT CAME IN: it is nil; or it leads to a row of 'cap' cells, the numbers 'zs' (the first 'len' are its elements, the rest its spare room), each fitting its kind. -/
def IsRow (k : IntKind) (w : World) (a : Option Addr) (len cap : Nat) (zs : List Int) : Prop :=
  (a = none ∧ len = 0 ∧ cap = 0 ∧ zs = []) ∨
  ∃ x, a = some x ∧ len ≤ cap ∧ cap ≤ maxLen ∧ zs.length = cap ∧ (∀ i, i < zs.length → w.cell? (x.add i) = some (.int k (zs.getD i 0))) ∧ ∀ n ∈ zs, (Lit.int k n).wf = true

theorem okP_range {x y : Int} (h : PtRange x y) : okP x y = true := by unfold PtRange at h; exact okP_iff.2 (by omega)

/-- What is used of three drawn points and the place x of a mirror: u, v, w are the images. -/
theorem facts {ax ay bx by_ cx cy x : Int} (ra : PtRange ax ay) (rb : PtRange bx by_) (rc : PtRange cx cy) (hx : -5 ≤ x ∧ x ≤ 5) :
    ∃ u v w n s : Int, mirX ax ay x = u ∧ mirX bx by_ x = v ∧ mirX cx cy x = w ∧ mirX u ay x = ax ∧ midX ax ay u ay = 2 * x ∧ midY ax ay u ay = 2 * ay ∧
      sideV ax ay bx by_ cx cy = n ∧ sideV u ay v by_ w cy = -n ∧ sideV bx by_ cx cy ax ay = n ∧ sideV bx by_ ax ay cx cy = -n ∧ sideV ax ay bx by_ bx by_ = 0 ∧
      sqV ax ay bx by_ = s ∧ sqV u ay v by_ = s ∧ sqV bx by_ ax ay = s ∧ (-28800 ≤ n ∧ n ≤ 28800) ∧ (s = 0 ↔ ax = bx ∧ ay = by_) := by
  have ha := okP_range ra
  have hb := okP_range rb
  have hc := okP_range rc
  unfold PtRange at ra rb rc
  have hx' : inP x = true := inP_iff.2 (by omega)
  have hu : okP (2 * x - ax) ay = true := okP_iff.2 (by omega)
  have hv : okP (2 * x - bx) by_ = true := okP_iff.2 (by omega)
  have hw : okP (2 * x - cx) cy = true := okP_iff.2 (by omega)
  refine ⟨2 * x - ax, 2 * x - bx, 2 * x - cx, _, _, mirX_yes ha hx', mirX_yes hb hx', mirX_yes hc hx', ?_, ?_, ?_, rfl, ?_, ?_, ?_, ?_, rfl, ?_, ?_, sideV_bd _ _ _ _ _ _, ?_⟩
  · rw [mirX_yes hu hx']; omega
  · rw [(mid_yes ha hu).1]; omega
  · rw [(mid_yes ha hu).2]; omega
  · rw [sideV_yes hu hv hw, sideV_yes ha hb hc, side_mirror]
  · rw [sideV_yes hb hc ha, sideV_yes ha hb hc, side_turn]
  · rw [sideV_yes hb ha hc, sideV_yes ha hb hc, side_swap]
  · rw [sideV_yes ha hb hb, side_same]
  · rw [sqV_yes hu hv, sqV_yes ha hb, sq_mirror]
  · rw [sqV_yes hb ha, sqV_yes ha hb, sq_swap]
  · rw [sqV_yes ha hb]
    constructor
    · intro h
      have := sq_zero h
      omega
    · rintro ⟨rfl, rfl⟩
      simp

/-- Two valid points with one text are one point. -/
theorem text_inj {ax ay bx by_ : Int} (ra : PtRange ax ay) (rb : PtRange bx by_) (h : ptTextV ax ay = ptTextV bx by_) : ax = bx ∧ ay = by_ := by
  have ha := okP_range ra
  have hb := okP_range rb
  unfold PtRange at ra rb
  unfold ptTextV at h
  rw [if_pos ha, if_pos hb] at h
  have h1 : ptText ax ay = ptText bx by_ := by
    have := congrArg (fun b : ByteArray => b.data.toList) h
    simpa using this
  unfold ptText at h1
  simp only [List.append_assoc, List.singleton_append] at h1
  obtain ⟨h2, h3⟩ := part_eq (fun c hc => num_ne (itoa_bytes _ c hc) (by decide)) (fun c hc => num_ne (itoa_bytes _ c hc) (by decide)) h1
  exact ⟨itoa_inj (by omega) (by omega) h2, itoa_inj (by omega) (by omega) h3⟩

/-! ### THE WALK: the Go text returns true, and writes nothing that was there. -/
set_option maxRecDepth 100000 in
set_option maxHeartbeats 1000000 in
theorem walk (a0 : Option Addr) (len0 cap0 : Nat) (z0 : List Int) (w : World) (g0 : IsRow .u8 w a0 len0 cap0 z0) (hT : Tens w) :
    Calls Tryd.prog 3 #[.slice a0 len0 cap0] w fun e w' => e = .returned (.bool true) ∧ Below w.heap.size w w' := by
  have hr : IsCode w a0 len0 cap0 z0 := g0
  clear g0
  have HT := Lib.hid hT
  clear hT
  have hm := (code_cells hr).1
  unfold maxLen at hm
  by_cases hbig : 1048576 < len0
  · clear hr
    go_enter Tryd.func3, Tryd.ntmps3
    go_wp2_with (go_at_call 5; refine (big_yes _ _ _ _ (by omega) (by omega)).mono ?_; rintro e w' ⟨rfl, rfl⟩)
    go_ret
    exact ⟨rfl, Below.refl _ _⟩
  · go_enter Tryd.func3, Tryd.ntmps3
    go_wp2_with fail
    refine (big_no _ _ _ _ (by omega) (by omega)).mono ?_
    rintro e w' ⟨rfl, rfl⟩
    go_wp2_with fail
    refine (drawPoints _ _ _ _ _ hr).mono ?_
    rintro e w1 ⟨ax, ay, bx, by_, cx, cy, ra, rb, rc, rfl, hb1⟩
    have hr1 := hr.below hb1
    clear hr
    go_wp2_with fail
    refine (at_any _ _ _ _ z0 0 (by omega) (hr1.below (((Below.refl _ _).alloc (by simp <;> omega) _ |>.alloc (by simp <;> omega) _ |>.alloc (by simp <;> omega) _)))).mono ?_
    rintro e w' ⟨t, ht0, ht1, rfl, rfl⟩
    clear hr1
    go_wp2_with fail
    have hx : -5 ≤ t % 11 - 5 ∧ t % 11 - 5 ≤ 5 := by omega
    generalize t % 11 - 5 = x at *
    obtain ⟨u, v, o, n, s, e1, e2, e3, e4, e5, e6, e7, e8, e9, e10, e11, e12, e13, e14, hn, hs⟩ := facts ra rb rc hx
    have E1 := Lib.hid e1
    have E2 := Lib.hid e2
    have E3 := Lib.hid e3
    have E4 := Lib.hid e4
    have E5 := Lib.hid e5
    have E6 := Lib.hid e6
    have E7 := Lib.hid e7
    have E8 := Lib.hid e8
    have E9 := Lib.hid e9
    have E10 := Lib.hid e10
    have E11 := Lib.hid e11
    have E12 := Lib.hid e12
    have E13 := Lib.hid e13
    have E14 := Lib.hid e14
    have HS := Lib.hid hs
    have HI := Lib.hid (text_inj ra rb)
    have HO := Lib.hid (okP_range ra)
    obtain ⟨hx0, hx1⟩ := hx
    obtain ⟨hn0, hn1⟩ := hn
    have hay : -3 ≤ ay ∧ ay ≤ 12 := ⟨ra.2.2.1, ra.2.2.2⟩
    obtain ⟨hay0, hay1⟩ := hay
    clear e1 e2 e3 e4 e5 e6 e7 e8 e9 e10 e11 e12 e13 e14 hs ra rb rc
    refine World.any (p := fun W => Calls _ _ _ W _) (fun W hW => ?_)
    have hK : Known W [(w1.heap.size, 0, .int .i64 ax), (w1.heap.size, 1, .int .i64 ay), (w1.heap.size + 1, 0, .int .i64 bx), (w1.heap.size + 1, 1, .int .i64 by_), (w1.heap.size + 1 + 1, 0, .int .i64 cx), (w1.heap.size + 1 + 1, 1, .int .i64 cy)] := by
      subst hW
      simp only [known_cons]
      refine ⟨?_, ?_, ?_, ?_, ?_, ?_, Known.nil _⟩ <;> go_simp
    have hB : Below w.heap.size w W := by
      subst hW
      exact ((hb1.alloc hb1.size _).alloc (by have := hb1.size; simp; omega) _).alloc (by have := hb1.size; simp; omega) _
    have hz0 : w1.heap.size + 1 + 1 < W.heap.size := by subst hW; simp
    clear hW
    have hz1 : w1.heap.size + 1 < W.heap.size := by omega
    have hz2 : w1.heap.size < W.heap.size := by omega
    refine (implMirrorPoint _ _ _ _).mono ?_
    rintro e w2 ⟨rfl, hb2⟩
    rw [E1.out]
    have hK2 := hK.below hb2
    have hB2 := hB.trans (hb2.mono hB.size)
    have hy0 : w1.heap.size + 1 + 1 < w2.heap.size := by have := hb2.size; omega
    have hy1 : w1.heap.size + 1 < w2.heap.size := by omega
    have hy2 : w1.heap.size < w2.heap.size := by omega
    clear hK hB hz0 hz1 hz2 hb2
    have KK := hK2
    simp only [known_cons] at KK
    obtain ⟨k0, k1, k2, k3, k4, k5, -⟩ := KK
    go_wp2_with fail
    clear k0 k1 k2 k3 k4 k5
    refine World.any (p := fun W => Calls _ _ _ W _) (fun W hW => ?_)
    have hK : Known W [(w2.heap.size, 0, .int .i64 u), (w2.heap.size, 1, .int .i64 ay), (w1.heap.size, 0, .int .i64 ax), (w1.heap.size, 1, .int .i64 ay), (w1.heap.size + 1, 0, .int .i64 bx), (w1.heap.size + 1, 1, .int .i64 by_), (w1.heap.size + 1 + 1, 0, .int .i64 cx), (w1.heap.size + 1 + 1, 1, .int .i64 cy)] := by
      subst hW
      rw [known_cons, known_cons]
      exact ⟨by go_simp, by go_simp, hK2.alloc _⟩
    have hB : Below w.heap.size w W := by
      subst hW
      exact hB2.alloc hB2.size _
    have hz3 : w2.heap.size < W.heap.size := by subst hW; simp
    clear hW hK2 hB2
    refine (implMirrorPoint _ _ _ _).mono ?_
    rintro e w3 ⟨rfl, hb3⟩
    rw [E2.out]
    have hK3 := hK.below hb3
    have hB3 := hB.trans (hb3.mono hB.size)
    have hy3 : w2.heap.size < w3.heap.size := by have := hb3.size; omega
    have hz0 : w1.heap.size + 1 + 1 < w3.heap.size := by omega
    have hz1 : w1.heap.size + 1 < w3.heap.size := by omega
    have hz2 : w1.heap.size < w3.heap.size := by omega
    clear hK hB hz3 hy0 hy1 hy2 hb3
    have KK := hK3
    simp only [known_cons] at KK
    obtain ⟨k6, k7, k0, k1, k2, k3, k4, k5, -⟩ := KK
    go_wp2_with fail
    clear k0 k1 k2 k3 k4 k5 k6 k7
    refine World.any (p := fun W => Calls _ _ _ W _) (fun W hW => ?_)
    have hK : Known W [(w3.heap.size, 0, .int .i64 v), (w3.heap.size, 1, .int .i64 by_), (w2.heap.size, 0, .int .i64 u), (w2.heap.size, 1, .int .i64 ay), (w1.heap.size, 0, .int .i64 ax), (w1.heap.size, 1, .int .i64 ay), (w1.heap.size + 1, 0, .int .i64 bx), (w1.heap.size + 1, 1, .int .i64 by_), (w1.heap.size + 1 + 1, 0, .int .i64 cx), (w1.heap.size + 1 + 1, 1, .int .i64 cy)] := by
      subst hW
      rw [known_cons, known_cons]
      exact ⟨by go_simp, by go_simp, hK3.alloc _⟩
    have hB : Below w.heap.size w W := by
      subst hW
      exact hB3.alloc hB3.size _
    have hz3 : w3.heap.size < W.heap.size := by subst hW; simp
    clear hW hK3 hB3
    refine (implMirrorPoint _ _ _ _).mono ?_
    rintro e w4 ⟨rfl, hb4⟩
    rw [E3.out]
    have hK4 := hK.below hb4
    have hB4 := hB.trans (hb4.mono hB.size)
    have hx3 : w3.heap.size < w4.heap.size := by have := hb4.size; omega
    have hx4 : w2.heap.size < w4.heap.size := by omega
    have hx5 : w1.heap.size + 1 + 1 < w4.heap.size := by omega
    have hx6 : w1.heap.size + 1 < w4.heap.size := by omega
    have hx7 : w1.heap.size < w4.heap.size := by omega
    clear hK hB hz3 hz0 hz1 hz2 hy3 hb4
    have KK := hK4
    simp only [known_cons] at KK
    obtain ⟨k8, k9, k6, k7, k0, k1, k2, k3, k4, k5, -⟩ := KK
    go_wp2_with fail
    clear k0 k1 k2 k3 k4 k5 k6 k7 k8 k9
    refine World.any (p := fun W => Calls _ _ _ W _) (fun W hW => ?_)
    have hK : Known W [(w4.heap.size, 0, .int .i64 o), (w4.heap.size, 1, .int .i64 cy), (w3.heap.size, 0, .int .i64 v), (w3.heap.size, 1, .int .i64 by_), (w2.heap.size, 0, .int .i64 u), (w2.heap.size, 1, .int .i64 ay), (w1.heap.size, 0, .int .i64 ax), (w1.heap.size, 1, .int .i64 ay), (w1.heap.size + 1, 0, .int .i64 bx), (w1.heap.size + 1, 1, .int .i64 by_), (w1.heap.size + 1 + 1, 0, .int .i64 cx), (w1.heap.size + 1 + 1, 1, .int .i64 cy)] := by
      subst hW
      rw [known_cons, known_cons]
      exact ⟨by go_simp, by go_simp, hK4.alloc _⟩
    have hB : Below w.heap.size w W := by
      subst hW
      exact hB4.alloc hB4.size _
    clear hW hK4 hB4 hx3 hx4 hx5 hx6 hx7
    refine (implMiddleTwice _ _ _ _ _).mono ?_
    rintro e W' ⟨rfl, hb⟩
    rw [E5.out, E6.out]
    replace hK := hK.below hb
    replace hB := hB.trans (hb.mono hB.size)
    clear hb
    have KK := hK
    simp only [known_cons] at KK
    obtain ⟨k8, k9, k10, k11, k6, k7, k0, k1, k2, k3, k4, k5, -⟩ := KK
    go_wp2_with fail
    clear k0 k1 k2 k3 k4 k5 k6 k7 k8 k9 k10 k11
    refine (implSideOf _ _ _ _ _ _ _).mono ?_
    rintro e W' ⟨rfl, hb⟩
    rw [E7.out]
    replace hK := hK.below hb
    replace hB := hB.trans (hb.mono hB.size)
    clear hb
    have KK := hK
    simp only [known_cons] at KK
    obtain ⟨k8, k9, k10, k11, k6, k7, k0, k1, k2, k3, k4, k5, -⟩ := KK
    go_wp2_with fail
    have C8 := Lib.hid (fun W' : World => (by have h := implSideOf u ay v by_ o cy W'; rw [E8.out] at h; exact h : Calls Tryd.prog 10 _ W' _))
    have C9 := Lib.hid (fun W' : World => (by have h := implSideOf bx by_ cx cy ax ay W'; rw [E9.out] at h; exact h : Calls Tryd.prog 10 _ W' _))
    have C10 := Lib.hid (fun W' : World => (by have h := implSideOf bx by_ ax ay cx cy W'; rw [E10.out] at h; exact h : Calls Tryd.prog 10 _ W' _))
    have C11 := Lib.hid (fun W' : World => (by have h := implSideOf ax ay bx by_ bx by_ W'; rw [E11.out] at h; exact h : Calls Tryd.prog 10 _ W' _))
    have C4 := Lib.hid (fun W' : World => (by have h := implMirrorPoint u ay x W'; rw [E4.out] at h; exact h : Calls Tryd.prog 8 _ W' _))
    have C12 := Lib.hid (fun W' : World => (by have h := implSquareOf ax ay bx by_ W'; rw [E12.out] at h; exact h : Calls Tryd.prog 11 _ W' _))
    have C13 := Lib.hid (fun W' : World => (by have h := implSquareOf u ay v by_ W'; rw [E13.out] at h; exact h : Calls Tryd.prog 11 _ W' _))
    have C14 := Lib.hid (fun W' : World => (by have h := implSquareOf bx by_ ax ay W'; rw [E14.out] at h; exact h : Calls Tryd.prog 11 _ W' _))
    have C15 := Lib.hid (fun W' : World => (by have h := implPointOk ax ay W'; rw [HO.out] at h; exact h : Calls Tryd.prog 12 _ W' _))
    have HTW := Lib.hid (HT.out.below hB)
    have hn1 := Since.nonempty W'
    have hS := fun (x : Since W') => (bcell x.2).1
    have l0 := hK.lt (q := (w4.heap.size, 0, .int .i64 o)) (by simp)
    have l1 := hK.lt (q := (w3.heap.size, 0, .int .i64 v)) (by simp)
    have l2 := hK.lt (q := (w2.heap.size, 0, .int .i64 u)) (by simp)
    have l3 := hK.lt (q := (w1.heap.size, 0, .int .i64 ax)) (by simp)
    have l4 := hK.lt (q := (w1.heap.size + 1, 0, .int .i64 bx)) (by simp)
    have l5 := hK.lt (q := (w1.heap.size + 1 + 1, 0, .int .i64 cx)) (by simp)
    generalize hT1 : ptTextV ax ay = T1 at *
    have HT1 := Lib.hid hT1
    generalize hT2 : ptTextV bx by_ = T2 at *
    have HT2 := Lib.hid hT2
    clear hT1 hT2
    have C16 := Lib.hid (fun (W' : World) hT => (by have h := implPointText ax ay W' hT; rw [HT1.out] at h; exact h : Calls Tryd.prog 13 _ W' _))
    have C17 := Lib.hid (fun (W' : World) hT => (by have h := implPointText bx by_ W' hT; rw [HT2.out] at h; exact h : Calls Tryd.prog 13 _ W' _))
    clear E1 E2 E3 E4 E5 E6 E7 E8 E9 E10 E11 E12 E13 E14 HO
    rcases (show (ax = bx ∧ ay = by_) ∨ (ax = bx ∧ ¬ ay = by_) ∨ ¬ ax = bx by omega) with ⟨rfl, rfl⟩ | ⟨rfl, hne⟩ | hne
    · as_aux_lemma =>
      obtain rfl : s = 0 := HS.out.2 ⟨rfl, rfl⟩
      obtain rfl : T1 = T2 := HT1.out.symm.trans HT2.out
      clear HS HI HT1 HT2
      refine wp_region_fast (by kernel_rfl) (by kernel_rfl) ?_
      dsimp only [List.append]
      repeat (go_big_quiet_step (first
        | (go_at_call 10; with_reducible exact Since.call (C8.out _))
        | (go_at_call 10; with_reducible exact Since.call (C9.out _))
        | (go_at_call 10; with_reducible exact Since.call (C10.out _))
        | (go_at_call 10; with_reducible exact Since.call (C11.out _))
        | (go_at_call 8; with_reducible exact Since.call (C4.out _))
        | (go_at_call 11; with_reducible exact Since.call (C12.out _))
        | (go_at_call 11; with_reducible exact Since.call (C13.out _))
        | (go_at_call 11; with_reducible exact Since.call (C14.out _))
        | (go_at_call 12; with_reducible exact Since.call (C15.out _))
        | (go_at_call 13; with_reducible exact Since.call (C16.out _ (HTW.out.below (Since.below _))))
        | (go_at_call 13; with_reducible exact Since.call (C17.out _ (HTW.out.below (Since.below _))))))
      refine wpQuiet_nil ?_
      rintro W2 ⟨⟨_, hb2⟩, rfl⟩
      clear C8 C9 C10 C11 C12 C13 C14 C15 C16 C17 C4 hS hn1 HTW k0 k1 k2 k3 k4 k5 k6 k7 k8 k9 k10 k11
      go_wp2_with fail
      go_ret
      refine ⟨?_, hB.trans (hb2.mono hB.size)⟩
      rfl
    · as_aux_lemma =>
      have hs0 : (s == 0) = false := by
        have h := HS.out
        rw [← Bool.not_eq_true, beq_iff_eq]
        intro h0
        have := h.1 h0
        omega
      have hT12 : ¬ T1 = T2 := fun h => by
        have := HI.out h
        omega
      have hTL : (T1.toList == T2.toList) = false := by
        rw [← Bool.not_eq_true, beq_iff_eq, Lib.toList_data, Lib.toList_data]
        exact fun h => hT12 (ByteArray.ext (Array.ext' h))
      clear HS HI HT1 HT2
      refine wp_region_fast (by kernel_rfl) (by kernel_rfl) ?_
      dsimp only [List.append]
      repeat (go_big_quiet_step (first
        | (go_at_call 10; with_reducible exact Since.call (C8.out _))
        | (go_at_call 10; with_reducible exact Since.call (C9.out _))
        | (go_at_call 10; with_reducible exact Since.call (C10.out _))
        | (go_at_call 10; with_reducible exact Since.call (C11.out _))
        | (go_at_call 8; with_reducible exact Since.call (C4.out _))
        | (go_at_call 11; with_reducible exact Since.call (C12.out _))
        | (go_at_call 11; with_reducible exact Since.call (C13.out _))
        | (go_at_call 11; with_reducible exact Since.call (C14.out _))
        | (go_at_call 12; with_reducible exact Since.call (C15.out _))
        | (go_at_call 13; with_reducible exact Since.call (C16.out _ (HTW.out.below (Since.below _))))
        | (go_at_call 13; with_reducible exact Since.call (C17.out _ (HTW.out.below (Since.below _))))))
      refine wpQuiet_nil ?_
      rintro W2 ⟨⟨_, hb2⟩, rfl⟩
      clear C8 C9 C10 C11 C12 C13 C14 C15 C16 C17 C4 hS hn1 HTW hs0 hT12 hTL hne k0 k1 k2 k3 k4 k5 k6 k7 k8 k9 k10 k11
      go_wp2_with fail
      go_ret
      refine ⟨?_, hB.trans (hb2.mono hB.size)⟩
      rfl
    · as_aux_lemma =>
      have hs0 : (s == 0) = false := by
        have h := HS.out
        rw [← Bool.not_eq_true, beq_iff_eq]
        intro h0
        have := h.1 h0
        omega
      have hT12 : ¬ T1 = T2 := fun h => by
        have := HI.out h
        omega
      have hTL : (T1.toList == T2.toList) = false := by
        rw [← Bool.not_eq_true, beq_iff_eq, Lib.toList_data, Lib.toList_data]
        exact fun h => hT12 (ByteArray.ext (Array.ext' h))
      clear HS HI HT1 HT2
      refine wp_region_fast (by kernel_rfl) (by kernel_rfl) ?_
      dsimp only [List.append]
      repeat (go_big_quiet_step (first
        | (go_at_call 10; with_reducible exact Since.call (C8.out _))
        | (go_at_call 10; with_reducible exact Since.call (C9.out _))
        | (go_at_call 10; with_reducible exact Since.call (C10.out _))
        | (go_at_call 10; with_reducible exact Since.call (C11.out _))
        | (go_at_call 8; with_reducible exact Since.call (C4.out _))
        | (go_at_call 11; with_reducible exact Since.call (C12.out _))
        | (go_at_call 11; with_reducible exact Since.call (C13.out _))
        | (go_at_call 11; with_reducible exact Since.call (C14.out _))
        | (go_at_call 12; with_reducible exact Since.call (C15.out _))
        | (go_at_call 13; with_reducible exact Since.call (C16.out _ (HTW.out.below (Since.below _))))
        | (go_at_call 13; with_reducible exact Since.call (C17.out _ (HTW.out.below (Since.below _))))))
      refine wpQuiet_nil ?_
      rintro W2 ⟨⟨_, hb2⟩, rfl⟩
      clear C8 C9 C10 C11 C12 C13 C14 C15 C16 C17 C4 hS hn1 HTW hs0 hT12 hTL hne k0 k1 k2 k3 k4 k5 k6 k7 k8 k9 k10 k11
      go_wp2_with fail
      go_ret
      refine ⟨?_, hB.trans (hb2.mono hB.size)⟩
      rfl

/-- The door's own heap meets the condition. -/
theorem door_met (os : Os) (args : Array Value) : laidMetH Tryd.prog Rows.fnPointsRow.laid ((World.doorLaid Tryd.prog 400 os).forCall (fun _ _ => 0) ⟨#[], args, []⟩).memory :=
  laidMetH_of_parts3 (fuel := 8) (laidMet_of_run' 8 (by kernel_rfl) (by kernel_rfl)) (by kernel_rfl) (by kernel_rfl)

/-! ### THE ROW's STEP -/
set_option maxRecDepth 100000 in
theorem lifted (os : Os) (started : os.Started) (H : Type) (enc : TypeId × Value → H) :
    ReturnsInHanded {} Tryd.checked os 3 .any (fun w args => (Rows.fnPointsSpec.pre enc Tryd.prog Tryd.f3 [] false w args ∧ laidMetH Tryd.prog Rows.fnPointsRow.laid w) ∧ sizedMet enc Tryd.prog Tryd.f3 (OpenSpec.ofChange Rows.fnPointsSpec) false w args) (Rows.fnPointsSpec.post enc Tryd.prog Tryd.f3 false true false false) := by
  refine returnsInHanded_of_change_and (C := Tryd.checked) (X := fun w _ => laidMetH Tryd.prog Rows.fnPointsRow.laid w) (fun _ _ _ hh h => h.of_heap hh) own started (by kernel_rfl) Tryd.func3
    (ChangeSpec.witness_shaped (enc := enc) (C := Tryd.checked) (os := os) (X := fun w _ => laidMetH Tryd.prog Rows.fnPointsRow.laid w) false (World.doorLaid Tryd.prog 400 os) #[.slice none 0 0] 8 rfl (World.shaped_of_RefB (by kernel_rfl) (by kernel_rfl)) (by kernel_rfl) (by kernel_rfl) (by kernel_rfl) (door_met os _)) ?_
  intro W base args ds gs before hval0 hW _ _ hL _
  have hval : ∀ (j : Nat) t v, Tryd.f3.params[j]? = some t → args[j]? = some v → Value.okWide Tryd.prog W .any base t v := hval0
  have hW' := hW
  obtain ⟨p, q, hA0, hV, rfl, hfz, hnd⟩ := hW
  have hA : DataW.TrodAll enc Tryd.prog W 0 (fun _ => true) true Tryd.f3.params.toList args.toList ds p := hA0
  rw [Tryd.params3] at hA hval
  obtain ⟨v0, vs0, d0, ds0, p0, q0, hargs, rfl, rfl, h0, r0⟩ := trodAll_cons hA
  obtain ⟨rfl, rfl, rfl⟩ := trodAll_nil r0
  obtain rfl : args = #[v0] := by cases args; simp_all
  obtain ⟨rfl, rfl⟩ := trodVars_none hV
  have k0 := h0
  have lt0 : ∀ x ∈ p0, x.block < W.heap.size := by obtain ⟨m, hm⟩ := k0; exact DataW.trod_lt m _ _ _ hm
  obtain ⟨a0, len0, cap0, rfl⟩ := okWide_slice Tryd.underlying22 (hval 0 22 v0 rfl rfl)
  obtain ⟨z0, g0⟩ : ∃ zs, IsRow .u8 W a0 len0 cap0 zs := by
    obtain ⟨fuel, hf⟩ := h0
    rcases open_ints Tryd.underlying22 Tryd.underlying5 (by kernel_rfl) hf with ⟨hcs, _⟩ | ⟨x, l, c, zs, hcs, _, hl, hm, hz, _, hcell, hwz⟩
    · simp [Value.cells] at hcs
      obtain ⟨rfl, rfl, rfl⟩ := hcs
      exact ⟨[], .inl ⟨rfl, rfl, rfl, rfl⟩⟩
    · simp [Value.cells] at hcs
      obtain ⟨rfl, rfl, rfl⟩ := hcs
      exact ⟨zs, .inr ⟨_, rfl, hl, hm, by simpa using hz, hcell, hwz⟩⟩
  clear hA0 hval0
  have hT := tens_of_laid (by kernel_rfl) hL
  refine (walk a0 len0 cap0 z0 W g0 hT).mono fun e W' ⟨he, bel⟩ => ?_
  subst he
  exact ⟨_, rfl, _, _, _, [], _, [], hW', trodAll_mk1 (shut_bool Tryd.underlying4 _), (trodAll_cons_mk (Below.trod laidOut (by kernel_rfl) (of_decide_eq_true (by kernel_rfl)) k0 bel lt0) trodAll_mk0), rfl, bel.frame _, fun h => by cases h⟩

theorem over : Rows.fnPointsRow.holds Tryd.pinned (OpenSpec.ofChange Rows.fnPointsSpec) :=
  OpenClaim.holds_of_wide 3 Tryd.f3 rfl rfl rfl rfl rfl rfl rfl ⟨rfl, rfl, rfl, rfl, rfl⟩ rfl rfl rfl rfl rfl (by kernel_rfl) Tryd.func3 (by kernel_rfl)
    (of_decide_eq_true (by kernel_rfl)) (by unfold Func.isWrapper; first | (rw [if_pos (by decide +kernel)]; kernel_rfl) | (rw [if_neg (by decide +kernel)]; exact ⟨rfl, rfl⟩))
    (fun os started H enc _ => lifted os started H enc)

/-- THE STATEMENT: the card, tied to the program's text. -/
theorem proved : Rows.FnPointsCardSaid :=
  Claim7.holds_tied_plain_at .later [] [.data, .data, .data] true (true, "bfe47caca66bdfcb0f6a98e14b1ffe9f314ab323484fdf9e87012aa633b2a796") false
    over (fun _ h => by cases h) (by kernel_rfl) (fun _ h => by cases h) fnPoints_row_tie rfl ⟨rfl, rfl⟩ (by kernel_rfl) rfl
    (fun f fn hf hfn => by
      obtain rfl : f = 3 := Option.some.inj ((show Tryd.prog.funcNamed Rows.fnPointsRow.func = some 3 by kernel_rfl).symm.trans hf) |>.symm
      obtain rfl : fn = Tryd.f3 := (Option.some.inj (Tryd.func3.symm.trans hfn)).symm
      exact ⟨by kernel_rfl, fun j t ht => by
        rw [Tryd.params3] at ht
        have hm : t ∈ [22] := by simpa using Array.mem_of_getElem? ht
        have hall : ([22].all fun u => !Tryd.prog.wantsStandIn u) = true := by kernel_rfl
        exact (show Tryd.prog.wantsStandIn t = false by simpa using List.all_eq_true.1 hall t hm)⟩)
    (by kernel_rfl)
#print axioms proved
end Go.Proofs.YtgblbilohmnlpaaDoor.fnPoints
