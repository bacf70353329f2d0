/- For every code, FnThrusts answers true: a thrust has one form, and what is halfway lies between. No condition. -/
import Derived.Test.YtghnkcfilpjhgaaDoorThrustD
import Derived.Test.YtghnkcfilpjhgaaDoorThrustT
import Derived.Test.YtghnkcfilpjhgaaDoorThrustI
import Derived.Test.YtghnkcfilpjhgaaDoorAtC
import Derived.Test.YtghnkcfilpjhgaaDoorLaidC
import Derived.Test.YtghnkcfilpjhgaaDoorRows
import Derived.Test.YtghnkcfilpjhgaaDoorCards
import Derived.Test.YtghnkcfilpjhgaaDoorTie
import Derived.LaidMore
import Derived.Stop.Joined
import Derived.SevenTiedAt
import Derived.WalkKit
import Derived.ProofKit
import Derived.OpenShut
import Derived.ShutString
import Derived.ChangeOld
import Derived.Below
namespace Go.Proofs.YtghnkcfilpjhgaaDoor.fnThrusts
set_option maxRecDepth 100000
open Go.ChangeShapes Go.WideShapes Go.ChangeAt Go.RowKit
open Go.ChangeMaps (open_string shut_string)
set_option linter.unusedVariables false

theorem own : ownKnob Tryd.prog.godebug = none := by kernel_rfl
theorem laidOut : laidOutB Tryd.prog = true := by kernel_rfl

/-- WHAT THE WALK IS TOLD OF A SLICE OF INTEGERS THAT CAME IN: it is nil; or it leads to a row of 'cap' cells, the numbers 'zs' (the first 'len' are its elements, the rest its spare room), each fitting its kind. -/
def IsRow (k : IntKind) (w : World) (a : Option Addr) (len cap : Nat) (zs : List Int) : Prop :=
  (a = none ∧ len = 0 ∧ cap = 0 ∧ zs = []) ∨
  ∃ x, a = some x ∧ len ≤ cap ∧ cap ≤ maxLen ∧ zs.length = cap ∧ (∀ i, i < zs.length → w.cell? (x.add i) = some (.int k (zs.getD i 0))) ∧ ∀ n ∈ zs, (Lit.int k n).wf = true

theorem wrapEq (x : Int) : IntKind.i64.wrap x = wrap64 x := IntWalk.i64_left x
theorem ord_range (x y : Int) : -1 ≤ ordV x y ∧ ordV x y ≤ 1 := by unfold ordV; split <;> (try split) <;> omega

/-- What the law asks of two drawn thrusts, plainly. -/
theorem facts {ah av am ad bh bv bm bd : Int} (ha : smallT ah av am ad) (hb : smallT bh bv bm bd) {k : Int} (hk : -100 ≤ k ∧ k < 0) :
    ∃ mh mv mm md c d : Int, mkV (k * ah) (k * av) (k * am) (k * ad) = .tuple #[.agg #[.int .i64 ah, .int .i64 av, .int .i64 am, .int .i64 ad], .bool true]
      ∧ mxV ah av am ad bh bv bm bd = .tuple #[.agg #[.int .i64 mh, .int .i64 mv, .int .i64 mm, .int .i64 md], .bool true]
      ∧ okT mh mv mm md = true ∧ cmpV ah av am ad bh bv bm bd = c ∧ cmpV ah av am ad mh mv mm md = c ∧ cmpV mh mv mm md bh bv bm bd = c ∧ cmpV bh bv bm bd ah av am ad = d
      ∧ IntKind.i64.wrap (-d) = c ∧ cmpV ah av am ad ah av am ad = 0 ∧ okT ah av am ad = true
      ∧ (IntKind.i64.wrap (k * ah) = k * ah ∧ IntKind.i64.wrap (k * av) = k * av ∧ IntKind.i64.wrap (k * am) = k * am ∧ IntKind.i64.wrap (k * ad) = k * ad) := by
  obtain ⟨h1, h2, h3, h4, h5⟩ := mk_same ha.1 k hk
  obtain ⟨m1, m2⟩ := mix_law ha hb
  obtain ⟨o1, o2⟩ := mix_ord ha hb _ _ rfl rfl
  have okm := mk_ok m2
  have ra := okT_iff.1 ha.1
  have r := ord_range (ah * bd) (bh * ad)
  refine ⟨_, _, _, _, _, _, ?_, ?_, okm, rfl, ?_, ?_, rfl, ?_, ?_, ha.1, ?_⟩
  · unfold mkV; rw [h1, h2, h3, h4, h5]
  · rw [mxV_yes m1]; unfold mkV; rw [m2]
  · rw [cmpV_yes ha.1 okm, cmpV_yes ha.1 hb.1, o1]
  · rw [cmpV_yes okm hb.1, cmpV_yes ha.1 hb.1, o2]
  · rw [cmpV_yes hb.1 ha.1, cmpV_yes ha.1 hb.1, ord_neg (bh * ad), Int.neg_neg]
    exact IntWalk.i64_in _ (by omega)
  · rw [cmpV_yes ha.1 ha.1, ord_same]
  · have p1 := mulT_bd (x := k) (y := ah) 100 1000 (by omega) (by have := ha.2.1; omega)
    have p2 := mulT_bd (x := k) (y := av) 100 1000 (by omega) (by have := ha.2.2.1; omega)
    have p3 := mulT_bd (x := k) (y := am) 100 1000 (by omega) (by have := ha.2.2.2.1; omega)
    have p4 := mulT_bd (x := k) (y := ad) 100 1000 (by omega) (by have := ha.2.2.2.2; omega)
    exact ⟨IntWalk.i64_in _ (by omega), IntWalk.i64_in _ (by omega), IntWalk.i64_in _ (by omega), IntWalk.i64_in _ (by omega)⟩

/-! ### THE WALK: the Go text returns true, and writes nothing that was there. -/
set_option maxRecDepth 100000 in
set_option maxHeartbeats 8000000 in
theorem walk (a0 : Option Addr) (len0 cap0 : Nat) (z0 : List Int) (w : World) (g0 : IsRow .u8 w a0 len0 cap0 z0) (hT : Tens w) :
    Calls Tryd.prog 3 #[.slice a0 len0 cap0] w fun e w' => e = .returned (.bool true) ∧ Below w.heap.size w w' := by
  have hr : IsCode w a0 len0 cap0 z0 := g0
  clear g0
  have HT := Lib.hid hT
  clear hT
  have hm := (code_cells hr).1
  unfold maxLen at hm
  by_cases hbig : 1048576 < len0
  · clear hr
    go_enter Tryd.func3, Tryd.ntmps3
    go_wp2_with (go_at_call 5; refine (big_yes _ _ _ _ (by omega) (by omega)).mono ?_; rintro e w' ⟨rfl, rfl⟩)
    go_ret
    exact ⟨rfl, Below.refl _ _⟩
  · go_enter Tryd.func3, Tryd.ntmps3
    go_wp2_with fail
    refine (big_no _ _ _ _ (by omega) (by omega)).mono ?_
    rintro e w' ⟨rfl, rfl⟩
    go_wp2_with fail
    refine (drawThrusts _ _ _ _ _ hr).mono ?_
    rintro e w1 ⟨ah, av, am, ad, bh, bv, bm, bd, ra, rb, rfl, hb1⟩
    have hr1 := hr.below hb1
    clear hr
    have HA := Lib.hid ra
    have HB := Lib.hid rb
    clear ra rb
    have HB1 := Lib.hid ((hb1.alloc hb1.size (.cells #[.int .i64 ah, .int .i64 av, .int .i64 am, .int .i64 ad] 25)).alloc (by have := hb1.size; simp; omega) (.cells #[.int .i64 bh, .int .i64 bv, .int .i64 bm, .int .i64 bd] 25))
    clear hb1
    go_wp2_with fail
    refine (at_any _ _ _ _ z0 0 (by omega) (hr1.below (((Below.refl _ _).alloc (by simp <;> omega) _ |>.alloc (by simp <;> omega) _)))).mono ?_
    rintro e w' ⟨t, ht0, ht1, rfl, rfl⟩
    clear hr1
    go_wp2_with fail
    have hkr : -100 ≤ -(1 + t % 9) ∧ -(1 + t % 9) < 0 := by omega
    generalize -(1 + t % 9) = k at *
    obtain ⟨mh, mv, mm, md, c, d, f1, f2, f3, f4, f5, f6, f7, f8, f9, f10, f11⟩ := facts HA.out HB.out hkr
    rw [wrapEq, wrapEq, wrapEq, wrapEq] at f11
    rw [f11.1, f11.2.1, f11.2.2.1, f11.2.2.2]
    have HMake := Lib.hid (fun W' : World => (by have h := implMake (k * ah) (k * av) (k * am) (k * ad) W'; rw [f1] at h; exact h : Calls Tryd.prog 8 _ W' _))
    have HMix := Lib.hid (fun W' : World => (by have h := implMix ah av am ad bh bv bm bd W'; rw [f2] at h; exact h : Calls Tryd.prog 9 _ W' _))
    have C1 := Lib.hid (fun W' : World => (by have h := implThrustOk mh mv mm md W'; rw [f3] at h; exact h : Calls Tryd.prog 11 _ W' _))
    have D1 := Lib.hid (fun W' : World => (by have h := implCompare ah av am ad bh bv bm bd W'; rw [f4] at h; exact h : Calls Tryd.prog 10 _ W' _))
    have D2 := Lib.hid (fun W' : World => (by have h := implCompare ah av am ad mh mv mm md W'; rw [f5] at h; exact h : Calls Tryd.prog 10 _ W' _))
    have D3 := Lib.hid (fun W' : World => (by have h := implCompare mh mv mm md bh bv bm bd W'; rw [f6] at h; exact h : Calls Tryd.prog 10 _ W' _))
    have C2 := Lib.hid (fun W' : World => (by have h := implCompare bh bv bm bd ah av am ad W'; rw [f7] at h; exact h : Calls Tryd.prog 10 _ W' _))
    have C3 := Lib.hid (fun W' : World => (by have h := implCompare ah av am ad ah av am ad W'; rw [f9] at h; exact h : Calls Tryd.prog 10 _ W' _))
    have C6 := Lib.hid (fun W' : World => (by have h := implThrustOk ah av am ad W'; rw [f10] at h; exact h : Calls Tryd.prog 11 _ W' _))
    have HI := Lib.hid (fun h => th_inj HA.out.1 HB.out.1 h)
    have HF8 := Lib.hid f8
    have HD : RowKit.Hid (ah = bh ∧ av = bv ∧ am = bm ∧ ad = bd → d = 0) := Lib.hid (by rintro ⟨rfl, rfl, rfl, rfl⟩; rw [← f7, f9])
    clear f1 f2 f3 f4 f5 f6 f7 f8 f9 f10 f11 hkr HA HB
    refine World.any (p := fun W => Calls _ _ _ W _) (fun W hW => ?_)
    have hK : Known W [(w1.heap.size, 0, .int .i64 ah), (w1.heap.size, 1, .int .i64 av), (w1.heap.size, 2, .int .i64 am), (w1.heap.size, 3, .int .i64 ad), (w1.heap.size + 1, 0, .int .i64 bh), (w1.heap.size + 1, 1, .int .i64 bv), (w1.heap.size + 1, 2, .int .i64 bm), (w1.heap.size + 1, 3, .int .i64 bd)] := by
      subst hW
      simp only [known_cons]
      refine ⟨?_, ?_, ?_, ?_, ?_, ?_, ?_, ?_, Known.nil _⟩ <;> go_simp
    have hB : Below w.heap.size w W := by subst hW; exact HB1.out
    have hz1 : w1.heap.size + 1 < W.heap.size := by subst hW; simp
    clear hW HB1
    refine (HMake.out _).mono ?_
    rintro e w2 ⟨rfl, hb2⟩
    have hK2 := hK.below hb2
    have hB2 := hB.trans (hb2.mono hB.size)
    have hy20 : w1.heap.size + 1 < w2.heap.size := by have := hb2.size; omega
    have hy21 : w1.heap.size < w2.heap.size := by have := hb2.size; omega
    clear hK hB hb2
    have KK := hK2
    simp only [known_cons] at KK
    obtain ⟨k0, k1, k2, k3, k4, k5, k6, k7, -⟩ := KK
    go_wp2_with fail
    clear k0 k1 k2 k3 k4 k5 k6 k7
    clear hz1
    refine World.any (p := fun W => Calls _ _ _ W _) (fun W hW => ?_)
    have hK : Known W [(w2.heap.size, 0, .int .i64 ah), (w2.heap.size, 1, .int .i64 av), (w2.heap.size, 2, .int .i64 am), (w2.heap.size, 3, .int .i64 ad), (w1.heap.size, 0, .int .i64 ah), (w1.heap.size, 1, .int .i64 av), (w1.heap.size, 2, .int .i64 am), (w1.heap.size, 3, .int .i64 ad), (w1.heap.size + 1, 0, .int .i64 bh), (w1.heap.size + 1, 1, .int .i64 bv), (w1.heap.size + 1, 2, .int .i64 bm), (w1.heap.size + 1, 3, .int .i64 bd)] := by
      subst hW
      rw [known_cons, known_cons, known_cons, known_cons]
      exact ⟨by go_simp, by go_simp, by go_simp, by go_simp, hK2.alloc _⟩
    have hB : Below w.heap.size w W := by
      subst hW
      exact hB2.alloc hB2.size _
    have hz2 : w2.heap.size < W.heap.size := by subst hW; simp
    have hx20 : w1.heap.size + 1 < W.heap.size := by subst hW; simp; omega
    have hx21 : w1.heap.size < W.heap.size := by subst hW; simp; omega
    clear hW hK2 hB2 hy20 hy21
    refine (HMix.out _).mono ?_
    rintro e w3 ⟨rfl, hb3⟩
    have hK3 := hK.below hb3
    have hB3 := hB.trans (hb3.mono hB.size)
    have hy30 : w2.heap.size < w3.heap.size := by have := hb3.size; omega
    have hy31 : w1.heap.size + 1 < w3.heap.size := by have := hb3.size; omega
    have hy32 : w1.heap.size < w3.heap.size := by have := hb3.size; omega
    clear hK hB hb3
    have KK := hK3
    simp only [known_cons] at KK
    obtain ⟨k0, k1, k2, k3, k4, k5, k6, k7, k8, k9, k10, k11, -⟩ := KK
    go_wp2_with fail
    clear k0 k1 k2 k3 k4 k5 k6 k7 k8 k9 k10 k11
    clear hz2 hx20 hx21
    refine World.any (p := fun W => Calls _ _ _ W _) (fun W hW => ?_)
    have hK : Known W [(w3.heap.size, 0, .int .i64 mh), (w3.heap.size, 1, .int .i64 mv), (w3.heap.size, 2, .int .i64 mm), (w3.heap.size, 3, .int .i64 md), (w2.heap.size, 0, .int .i64 ah), (w2.heap.size, 1, .int .i64 av), (w2.heap.size, 2, .int .i64 am), (w2.heap.size, 3, .int .i64 ad), (w1.heap.size, 0, .int .i64 ah), (w1.heap.size, 1, .int .i64 av), (w1.heap.size, 2, .int .i64 am), (w1.heap.size, 3, .int .i64 ad), (w1.heap.size + 1, 0, .int .i64 bh), (w1.heap.size + 1, 1, .int .i64 bv), (w1.heap.size + 1, 2, .int .i64 bm), (w1.heap.size + 1, 3, .int .i64 bd)] := by
      subst hW
      rw [known_cons, known_cons, known_cons, known_cons]
      exact ⟨by go_simp, by go_simp, by go_simp, by go_simp, hK3.alloc _⟩
    have hB : Below w.heap.size w W := by
      subst hW
      exact hB3.alloc hB3.size _
    have hz3 : w3.heap.size < W.heap.size := by subst hW; simp
    have hx30 : w2.heap.size < W.heap.size := by subst hW; simp; omega
    have hx31 : w1.heap.size + 1 < W.heap.size := by subst hW; simp; omega
    have hx32 : w1.heap.size < W.heap.size := by subst hW; simp; omega
    clear hW hK3 hB3 hy30 hy31 hy32
    refine (D1.out _).mono ?_
    rintro e w4 ⟨rfl, hb4⟩
    have hK4 := hK.below hb4
    have hB4 := hB.trans (hb4.mono hB.size)
    have hy40 : w3.heap.size < w4.heap.size := by have := hb4.size; omega
    have hy41 : w2.heap.size < w4.heap.size := by have := hb4.size; omega
    have hy42 : w1.heap.size + 1 < w4.heap.size := by have := hb4.size; omega
    have hy43 : w1.heap.size < w4.heap.size := by have := hb4.size; omega
    clear hK hB hb4
    have KK := hK4
    simp only [known_cons] at KK
    obtain ⟨k0, k1, k2, k3, k4, k5, k6, k7, k8, k9, k10, k11, k12, k13, k14, k15, -⟩ := KK
    go_wp2_with fail
    clear k0 k1 k2 k3 k4 k5 k6 k7 k8 k9 k10 k11 k12 k13 k14 k15
    clear hz3 hx30 hx31 hx32
    refine World.any (p := fun W => Calls _ _ _ W _) (fun W hW => ?_)
    have hK : Known W [(w3.heap.size, 0, .int .i64 mh), (w3.heap.size, 1, .int .i64 mv), (w3.heap.size, 2, .int .i64 mm), (w3.heap.size, 3, .int .i64 md), (w2.heap.size, 0, .int .i64 ah), (w2.heap.size, 1, .int .i64 av), (w2.heap.size, 2, .int .i64 am), (w2.heap.size, 3, .int .i64 ad), (w1.heap.size, 0, .int .i64 ah), (w1.heap.size, 1, .int .i64 av), (w1.heap.size, 2, .int .i64 am), (w1.heap.size, 3, .int .i64 ad), (w1.heap.size + 1, 0, .int .i64 bh), (w1.heap.size + 1, 1, .int .i64 bv), (w1.heap.size + 1, 2, .int .i64 bm), (w1.heap.size + 1, 3, .int .i64 bd)] := by subst hW; exact hK4
    have hB : Below w.heap.size w W := by subst hW; exact hB4
    have hx40 : w3.heap.size < W.heap.size := by subst hW; omega
    have hx41 : w2.heap.size < W.heap.size := by subst hW; omega
    have hx42 : w1.heap.size + 1 < W.heap.size := by subst hW; omega
    have hx43 : w1.heap.size < W.heap.size := by subst hW; omega
    clear hW hK4 hB4 hy40 hy41 hy42 hy43
    refine (D2.out _).mono ?_
    rintro e w5 ⟨rfl, hb5⟩
    have hK5 := hK.below hb5
    have hB5 := hB.trans (hb5.mono hB.size)
    have hy50 : w3.heap.size < w5.heap.size := by have := hb5.size; omega
    have hy51 : w2.heap.size < w5.heap.size := by have := hb5.size; omega
    have hy52 : w1.heap.size + 1 < w5.heap.size := by have := hb5.size; omega
    have hy53 : w1.heap.size < w5.heap.size := by have := hb5.size; omega
    clear hK hB hb5
    have KK := hK5
    simp only [known_cons] at KK
    obtain ⟨k0, k1, k2, k3, k4, k5, k6, k7, k8, k9, k10, k11, k12, k13, k14, k15, -⟩ := KK
    go_wp2_with fail
    clear k0 k1 k2 k3 k4 k5 k6 k7 k8 k9 k10 k11 k12 k13 k14 k15
    clear hx40 hx41 hx42 hx43
    refine World.any (p := fun W => Calls _ _ _ W _) (fun W hW => ?_)
    have hK : Known W [(w3.heap.size, 0, .int .i64 mh), (w3.heap.size, 1, .int .i64 mv), (w3.heap.size, 2, .int .i64 mm), (w3.heap.size, 3, .int .i64 md), (w2.heap.size, 0, .int .i64 ah), (w2.heap.size, 1, .int .i64 av), (w2.heap.size, 2, .int .i64 am), (w2.heap.size, 3, .int .i64 ad), (w1.heap.size, 0, .int .i64 ah), (w1.heap.size, 1, .int .i64 av), (w1.heap.size, 2, .int .i64 am), (w1.heap.size, 3, .int .i64 ad), (w1.heap.size + 1, 0, .int .i64 bh), (w1.heap.size + 1, 1, .int .i64 bv), (w1.heap.size + 1, 2, .int .i64 bm), (w1.heap.size + 1, 3, .int .i64 bd)] := by subst hW; exact hK5
    have hB : Below w.heap.size w W := by subst hW; exact hB5
    have hx50 : w3.heap.size < W.heap.size := by subst hW; omega
    have hx51 : w2.heap.size < W.heap.size := by subst hW; omega
    have hx52 : w1.heap.size + 1 < W.heap.size := by subst hW; omega
    have hx53 : w1.heap.size < W.heap.size := by subst hW; omega
    clear hW hK5 hB5 hy50 hy51 hy52 hy53
    refine (D3.out _).mono ?_
    rintro e w6 ⟨rfl, hb6⟩
    have hK6 := hK.below hb6
    have hB6 := hB.trans (hb6.mono hB.size)
    have hy60 : w3.heap.size < w6.heap.size := by have := hb6.size; omega
    have hy61 : w2.heap.size < w6.heap.size := by have := hb6.size; omega
    have hy62 : w1.heap.size + 1 < w6.heap.size := by have := hb6.size; omega
    have hy63 : w1.heap.size < w6.heap.size := by have := hb6.size; omega
    clear hK hB hb6
    have KK := hK6
    simp only [known_cons] at KK
    obtain ⟨k0, k1, k2, k3, k4, k5, k6, k7, k8, k9, k10, k11, k12, k13, k14, k15, -⟩ := KK
    go_wp2_with fail
    clear k0 k1 k2 k3 k4 k5 k6 k7 k8 k9 k10 k11 k12 k13 k14 k15
    clear hx50 hx51 hx52 hx53
    refine World.any (p := fun W => Code.wp _ _ _ _ W) (fun W hW => ?_)
    have hK : Known W [(w3.heap.size, 0, .int .i64 mh), (w3.heap.size, 1, .int .i64 mv), (w3.heap.size, 2, .int .i64 mm), (w3.heap.size, 3, .int .i64 md), (w2.heap.size, 0, .int .i64 ah), (w2.heap.size, 1, .int .i64 av), (w2.heap.size, 2, .int .i64 am), (w2.heap.size, 3, .int .i64 ad), (w1.heap.size, 0, .int .i64 ah), (w1.heap.size, 1, .int .i64 av), (w1.heap.size, 2, .int .i64 am), (w1.heap.size, 3, .int .i64 ad), (w1.heap.size + 1, 0, .int .i64 bh), (w1.heap.size + 1, 1, .int .i64 bv), (w1.heap.size + 1, 2, .int .i64 bm), (w1.heap.size + 1, 3, .int .i64 bd)] := by subst hW; exact hK6
    have hB : Below w.heap.size w W := by subst hW; exact hB6
    have hx60 : w3.heap.size < W.heap.size := by subst hW; omega
    have hx61 : w2.heap.size < W.heap.size := by subst hW; omega
    have hx62 : w1.heap.size + 1 < W.heap.size := by subst hW; omega
    have hx63 : w1.heap.size < W.heap.size := by subst hW; omega
    clear hW hK6 hB6 hy60 hy61 hy62 hy63
    have KK := hK
    simp only [known_cons] at KK
    obtain ⟨k0, k1, k2, k3, k4, k5, k6, k7, k8, k9, k10, k11, k12, k13, k14, k15, -⟩ := KK
    have HTW := Lib.hid (HT.out.below hB)
    have hn1 := Since.nonempty W
    have hS := fun (x : Since W) => (bcell x.2).1
    have e1 : IntKind.i64.wrap (-d) = c := HF8.out
    have e2 : wrap64 (-d) = c := by rw [← wrapEq]; exact HF8.out
    generalize hT1 : thTextV ah av am ad = T1 at *
    have HT1 := Lib.hid hT1
    generalize hT2 : thTextV bh bv bm bd = T2 at *
    have HT2 := Lib.hid hT2
    clear hT1 hT2
    have C4 := Lib.hid (fun (W' : World) hT => (by have h := implThrustText ah av am ad W' hT; rw [HT1.out] at h; exact h : Calls Tryd.prog 12 _ W' _))
    have C5 := Lib.hid (fun (W' : World) hT => (by have h := implThrustText bh bv bm bd W' hT; rw [HT2.out] at h; exact h : Calls Tryd.prog 12 _ W' _))
    clear D1 D2 D3 HMake HMix HF8
    rcases (show (ah = bh ∧ av = bv ∧ am = bm ∧ ad = bd) ∨ (ah = bh ∧ av = bv ∧ am = bm ∧ ¬ ad = bd) ∨ (ah = bh ∧ av = bv ∧ ¬ am = bm) ∨ (ah = bh ∧ ¬ av = bv) ∨ ¬ ah = bh by omega) with ⟨rfl, rfl, rfl, rfl⟩ | ⟨rfl, rfl, rfl, hne⟩ | ⟨rfl, rfl, hne⟩ | ⟨rfl, hne⟩ | hne
    · as_aux_lemma =>
      obtain rfl : d = 0 := HD.out ⟨rfl, rfl, rfl, rfl⟩
      obtain rfl : c = 0 := e1.symm.trans (IntWalk.i64_in _ (by omega))
      clear e1 e2
      obtain rfl : T1 = T2 := HT1.out.symm.trans HT2.out
      clear HI HT1 HT2 HD
      refine wp_region_fast (by kernel_rfl) (by kernel_rfl) ?_
      repeat (go_big_quiet_step (first
        | (go_at_call 11; with_reducible exact Since.call (C1.out _))
        | (go_at_call 11; with_reducible exact Since.call (C6.out _))
        | (go_at_call 10; with_reducible exact Since.call (C2.out _))
        | (go_at_call 10; with_reducible exact Since.call (C3.out _))
        | (go_at_call 12; with_reducible exact Since.call (C4.out _ (HTW.out.below (Since.below _))))
        | (go_at_call 12; with_reducible exact Since.call (C5.out _ (HTW.out.below (Since.below _))))))
      refine wpQuiet_nil ?_
      rintro W2 ⟨⟨_, hb2⟩, rfl⟩
      clear C1 C2 C3 C4 C5 C6 hS hn1 HTW k0 k1 k2 k3 k4 k5 k6 k7 k8 k9 k10 k11 k12 k13 k14 k15
      go_wp2_with fail
      go_ret
      refine ⟨?_, hB.trans (hb2.mono hB.size)⟩
      rfl
    · as_aux_lemma =>
      have hT12 : ¬ T1 = T2 := fun h => by
        have := HI.out h
        omega
      have hTL : (T1.toList == T2.toList) = false := by
        rw [← Bool.not_eq_true, beq_iff_eq, Lib.toList_data, Lib.toList_data]
        exact fun h => hT12 (ByteArray.ext (Array.ext' h))
      clear HI HT1 HT2 HD
      refine wp_region_fast (by kernel_rfl) (by kernel_rfl) ?_
      repeat (go_big_quiet_step (first
        | (go_at_call 11; with_reducible exact Since.call (C1.out _))
        | (go_at_call 11; with_reducible exact Since.call (C6.out _))
        | (go_at_call 10; with_reducible exact Since.call (C2.out _))
        | (go_at_call 10; with_reducible exact Since.call (C3.out _))
        | (go_at_call 12; with_reducible exact Since.call (C4.out _ (HTW.out.below (Since.below _))))
        | (go_at_call 12; with_reducible exact Since.call (C5.out _ (HTW.out.below (Since.below _))))))
      refine wpQuiet_nil ?_
      rintro W2 ⟨⟨_, hb2⟩, rfl⟩
      clear C1 C2 C3 C4 C5 C6 hS hn1 HTW k0 k1 k2 k3 k4 k5 k6 k7 k8 k9 k10 k11 k12 k13 k14 k15
      go_wp2_with fail
      go_ret
      refine ⟨?_, hB.trans (hb2.mono hB.size)⟩
      rfl
    · as_aux_lemma =>
      have hT12 : ¬ T1 = T2 := fun h => by
        have := HI.out h
        omega
      have hTL : (T1.toList == T2.toList) = false := by
        rw [← Bool.not_eq_true, beq_iff_eq, Lib.toList_data, Lib.toList_data]
        exact fun h => hT12 (ByteArray.ext (Array.ext' h))
      clear HI HT1 HT2 HD
      refine wp_region_fast (by kernel_rfl) (by kernel_rfl) ?_
      repeat (go_big_quiet_step (first
        | (go_at_call 11; with_reducible exact Since.call (C1.out _))
        | (go_at_call 11; with_reducible exact Since.call (C6.out _))
        | (go_at_call 10; with_reducible exact Since.call (C2.out _))
        | (go_at_call 10; with_reducible exact Since.call (C3.out _))
        | (go_at_call 12; with_reducible exact Since.call (C4.out _ (HTW.out.below (Since.below _))))
        | (go_at_call 12; with_reducible exact Since.call (C5.out _ (HTW.out.below (Since.below _))))))
      refine wpQuiet_nil ?_
      rintro W2 ⟨⟨_, hb2⟩, rfl⟩
      clear C1 C2 C3 C4 C5 C6 hS hn1 HTW k0 k1 k2 k3 k4 k5 k6 k7 k8 k9 k10 k11 k12 k13 k14 k15
      go_wp2_with fail
      go_ret
      refine ⟨?_, hB.trans (hb2.mono hB.size)⟩
      rfl
    · as_aux_lemma =>
      have hT12 : ¬ T1 = T2 := fun h => by
        have := HI.out h
        omega
      have hTL : (T1.toList == T2.toList) = false := by
        rw [← Bool.not_eq_true, beq_iff_eq, Lib.toList_data, Lib.toList_data]
        exact fun h => hT12 (ByteArray.ext (Array.ext' h))
      clear HI HT1 HT2 HD
      refine wp_region_fast (by kernel_rfl) (by kernel_rfl) ?_
      repeat (go_big_quiet_step (first
        | (go_at_call 11; with_reducible exact Since.call (C1.out _))
        | (go_at_call 11; with_reducible exact Since.call (C6.out _))
        | (go_at_call 10; with_reducible exact Since.call (C2.out _))
        | (go_at_call 10; with_reducible exact Since.call (C3.out _))
        | (go_at_call 12; with_reducible exact Since.call (C4.out _ (HTW.out.below (Since.below _))))
        | (go_at_call 12; with_reducible exact Since.call (C5.out _ (HTW.out.below (Since.below _))))))
      refine wpQuiet_nil ?_
      rintro W2 ⟨⟨_, hb2⟩, rfl⟩
      clear C1 C2 C3 C4 C5 C6 hS hn1 HTW k0 k1 k2 k3 k4 k5 k6 k7 k8 k9 k10 k11 k12 k13 k14 k15
      go_wp2_with fail
      go_ret
      refine ⟨?_, hB.trans (hb2.mono hB.size)⟩
      rfl
    · as_aux_lemma =>
      have hT12 : ¬ T1 = T2 := fun h => by
        have := HI.out h
        omega
      have hTL : (T1.toList == T2.toList) = false := by
        rw [← Bool.not_eq_true, beq_iff_eq, Lib.toList_data, Lib.toList_data]
        exact fun h => hT12 (ByteArray.ext (Array.ext' h))
      clear HI HT1 HT2 HD
      refine wp_region_fast (by kernel_rfl) (by kernel_rfl) ?_
      repeat (go_big_quiet_step (first
        | (go_at_call 11; with_reducible exact Since.call (C1.out _))
        | (go_at_call 11; with_reducible exact Since.call (C6.out _))
        | (go_at_call 10; with_reducible exact Since.call (C2.out _))
        | (go_at_call 10; with_reducible exact Since.call (C3.out _))
        | (go_at_call 12; with_reducible exact Since.call (C4.out _ (HTW.out.below (Since.below _))))
        | (go_at_call 12; with_reducible exact Since.call (C5.out _ (HTW.out.below (Since.below _))))))
      refine wpQuiet_nil ?_
      rintro W2 ⟨⟨_, hb2⟩, rfl⟩
      clear C1 C2 C3 C4 C5 C6 hS hn1 HTW k0 k1 k2 k3 k4 k5 k6 k7 k8 k9 k10 k11 k12 k13 k14 k15
      go_wp2_with fail
      go_ret
      refine ⟨?_, hB.trans (hb2.mono hB.size)⟩
      rfl

/-- The door's own heap meets the condition. -/
theorem door_met (os : Os) (args : Array Value) : laidMetH Tryd.prog Rows.fnThrustsRow.laid ((World.doorLaid Tryd.prog 400 os).forCall (fun _ _ => 0) ⟨#[], args, []⟩).memory :=
  laidMetH_of_parts3 (fuel := 8) (laidMet_of_run' 8 (by kernel_rfl) (by kernel_rfl)) (by kernel_rfl) (by kernel_rfl)

/-! ### THE ROW's STEP -/
set_option maxRecDepth 100000 in
theorem lifted (os : Os) (started : os.Started) (H : Type) (enc : TypeId × Value → H) :
    ReturnsInHanded {} Tryd.checked os 3 .any (fun w args => (Rows.fnThrustsSpec.pre enc Tryd.prog Tryd.f3 [] false w args ∧ laidMetH Tryd.prog Rows.fnThrustsRow.laid w) ∧ sizedMet enc Tryd.prog Tryd.f3 (OpenSpec.ofChange Rows.fnThrustsSpec) false w args) (Rows.fnThrustsSpec.post enc Tryd.prog Tryd.f3 false true false false) := by
  refine returnsInHanded_of_change_and (C := Tryd.checked) (X := fun w _ => laidMetH Tryd.prog Rows.fnThrustsRow.laid w) (fun _ _ _ hh h => h.of_heap hh) own started (by kernel_rfl) Tryd.func3
    (ChangeSpec.witness_shaped (enc := enc) (C := Tryd.checked) (os := os) (X := fun w _ => laidMetH Tryd.prog Rows.fnThrustsRow.laid w) false (World.doorLaid Tryd.prog 400 os) #[.slice none 0 0] 8 rfl (World.shaped_of_RefB (by kernel_rfl) (by kernel_rfl)) (by kernel_rfl) (by kernel_rfl) (by kernel_rfl) (door_met os _)) ?_
  intro W base args ds gs before hval0 hW _ _ hL _
  have hval : ∀ (j : Nat) t v, Tryd.f3.params[j]? = some t → args[j]? = some v → Value.okWide Tryd.prog W .any base t v := hval0
  have hW' := hW
  obtain ⟨p, q, hA0, hV, rfl, hfz, hnd⟩ := hW
  have hA : DataW.TrodAll enc Tryd.prog W 0 (fun _ => true) true Tryd.f3.params.toList args.toList ds p := hA0
  rw [Tryd.params3] at hA hval
  obtain ⟨v0, vs0, d0, ds0, p0, q0, hargs, rfl, rfl, h0, r0⟩ := trodAll_cons hA
  obtain ⟨rfl, rfl, rfl⟩ := trodAll_nil r0
  obtain rfl : args = #[v0] := by cases args; simp_all
  obtain ⟨rfl, rfl⟩ := trodVars_none hV
  have k0 := h0
  have lt0 : ∀ x ∈ p0, x.block < W.heap.size := by obtain ⟨m, hm⟩ := k0; exact DataW.trod_lt m _ _ _ hm
  obtain ⟨a0, len0, cap0, rfl⟩ := okWide_slice Tryd.underlying22 (hval 0 22 v0 rfl rfl)
  obtain ⟨z0, g0⟩ : ∃ zs, IsRow .u8 W a0 len0 cap0 zs := by
    obtain ⟨fuel, hf⟩ := h0
    rcases open_ints Tryd.underlying22 Tryd.underlying5 (by kernel_rfl) hf with ⟨hcs, _⟩ | ⟨x, l, c, zs, hcs, _, hl, hm, hz, _, hcell, hwz⟩
    · simp [Value.cells] at hcs
      obtain ⟨rfl, rfl, rfl⟩ := hcs
      exact ⟨[], .inl ⟨rfl, rfl, rfl, rfl⟩⟩
    · simp [Value.cells] at hcs
      obtain ⟨rfl, rfl, rfl⟩ := hcs
      exact ⟨zs, .inr ⟨_, rfl, hl, hm, by simpa using hz, hcell, hwz⟩⟩
  clear hA0 hval0
  have hT := tens_of_laid (by kernel_rfl) hL
  refine (walk a0 len0 cap0 z0 W g0 hT).mono fun e W' ⟨he, bel⟩ => ?_
  subst he
  exact ⟨_, rfl, _, _, _, [], _, [], hW', trodAll_mk1 (shut_bool Tryd.underlying4 _), (trodAll_cons_mk (Below.trod laidOut (by kernel_rfl) (of_decide_eq_true (by kernel_rfl)) k0 bel lt0) trodAll_mk0), rfl, bel.frame _, fun h => by cases h⟩

theorem over : Rows.fnThrustsRow.holds Tryd.pinned (OpenSpec.ofChange Rows.fnThrustsSpec) :=
  OpenClaim.holds_of_wide 3 Tryd.f3 rfl rfl rfl rfl rfl rfl rfl ⟨rfl, rfl, rfl, rfl, rfl⟩ rfl rfl rfl rfl rfl (by kernel_rfl) Tryd.func3 (by kernel_rfl)
    (of_decide_eq_true (by kernel_rfl)) (by unfold Func.isWrapper; first | (rw [if_pos (by decide +kernel)]; kernel_rfl) | (rw [if_neg (by decide +kernel)]; exact ⟨rfl, rfl⟩))
    (fun os started H enc _ => lifted os started H enc)

/-- THE STATEMENT: the card, tied to the program's text. -/
theorem proved : Rows.FnThrustsCardSaid :=
  Claim7.holds_tied_plain_at .later [] [.data, .data, .data] true (true, "f24873e0f17af76ec59ae298ee4a2091088b1d3413ffd3916fec26c4e4162992") false
    over (fun _ h => by cases h) (by kernel_rfl) (fun _ h => by cases h) fnThrusts_row_tie rfl ⟨rfl, rfl⟩ (by kernel_rfl) rfl
    (fun f fn hf hfn => by
      obtain rfl : f = 3 := Option.some.inj ((show Tryd.prog.funcNamed Rows.fnThrustsRow.func = some 3 by kernel_rfl).symm.trans hf) |>.symm
      obtain rfl : fn = Tryd.f3 := (Option.some.inj (Tryd.func3.symm.trans hfn)).symm
      exact ⟨by kernel_rfl, fun j t ht => by
        rw [Tryd.params3] at ht
        have hm : t ∈ [22] := by simpa using Array.mem_of_getElem? ht
        have hall : ([22].all fun u => !Tryd.prog.wantsStandIn u) = true := by kernel_rfl
        exact (show Tryd.prog.wantsStandIn t = false by simpa using List.all_eq_true.1 hall t hm)⟩)
    (by kernel_rfl)
#print axioms proved
end Go.Proofs.YtghnkcfilpjhgaaDoor.fnThrusts
