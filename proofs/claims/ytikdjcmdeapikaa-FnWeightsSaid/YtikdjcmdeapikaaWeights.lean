/- The law of weights: the middle of weight lies inside, and is mirrored with the stone. -/
import Derived.Test.YtikdjcmdeapikaaStoneR
import Derived.Test.YtikdjcmdeapikaaStoneN
import Derived.Test.YtikdjcmdeapikaaStoneD
import Derived.Test.YtikdjcmdeapikaaWeightH
import Derived.Test.YtikdjcmdeapikaaWeightT
import Derived.Test.YtikdjcmdeapikaaAtC
import Derived.Test.YtikdjcmdeapikaaRows
import Derived.WalkKit
import Derived.ProofKit
import Derived.OpenShut
import Derived.ShutString
import Derived.ChangeOld
import Derived.Below
namespace Go.Proofs.Ytikdjcmdeapikaa.fnWeights
open Go.ChangeShapes Go.WideShapes Go.ChangeAt Go.RowKit
open Go.ChangeMaps (open_string shut_string)
set_option linter.unusedVariables false

theorem own : ownKnob Try.prog.godebug = none := by kernel_rfl
theorem laidOut : laidOutB Try.prog = true := by kernel_rfl

/-- WHAT THE WALK IS TOLD OF A SLICE OF INTEGERS THAT CAME IN: it is nil; or it leads to a row of 'cap' cells, the numbers 'zs' (the first 'len' are its elements, the rest its spare room), each fitting its kind. -/
def IsRow (k : IntKind) (w : World) (a : Option Addr) (len cap : Nat) (zs : List Int) : Prop :=
  (a = none ∧ len = 0 ∧ cap = 0 ∧ zs = []) ∨
  ∃ x, a = some x ∧ len ≤ cap ∧ cap ≤ maxLen ∧ zs.length = cap ∧ (∀ i, i < zs.length → w.cell? (x.add i) = some (.int k (zs.getD i 0))) ∧ ∀ n ∈ zs, (Lit.int k n).wf = true

theorem below_al2 {a w : World} (h : Below a.heap.size a w) (o : Obj) : Below a.heap.size a (w.alloc o) := h.alloc h.size o
theorem alloc_below2 (w : World) (o : Obj) : Below w.heap.size w (w.alloc o) := (Below.refl w.heap.size w).alloc (Nat.le_refl _) o

/-- Six known cells, one by one. -/
theorem known6 {W : World} {b1 o1 b2 o2 b3 o3 b4 o4 b5 o5 b6 o6 : Nat} {v1 v2 v3 v4 v5 v6 : Value} (h : Known W [(b1, o1, v1), (b2, o2, v2), (b3, o3, v3), (b4, o4, v4), (b5, o5, v5), (b6, o6, v6)]) :
    W.cell? ⟨b1, o1, none⟩ = some v1 ∧ W.cell? ⟨b2, o2, none⟩ = some v2 ∧ W.cell? ⟨b3, o3, none⟩ = some v3 ∧ W.cell? ⟨b4, o4, none⟩ = some v4 ∧ W.cell? ⟨b5, o5, none⟩ = some v5 ∧ W.cell? ⟨b6, o6, none⟩ = some v6 := by
  simp only [known_cons] at h
  obtain ⟨h1, h2, h3, h4, h5, h6, -⟩ := h
  exact ⟨h1, h2, h3, h4, h5, h6⟩

/-- A row of three stones, newly made. -/
theorem SRow.three {w : World} {B : Nat} {a b c : Value} {ca cb cc : List (Int × Int)} (hB : B ≤ w.heap.size) (ha : Row w B a ca) (hb : Row w B b cb) (hc : Row w B c cc) :
    SRow (w.alloc (.cells #[a, b, c] 26)) B (.slice (some ⟨w.heap.size, 0, none⟩) 3 3) [ca, cb, cc] := by
  refine ⟨[a, b, c], rfl, ⟨rfl, .inr ⟨w.heap.size, 3, #[a, b, c], rfl, hB, heap_alloc_new w _, Nat.le_refl _, by unfold maxLen; omega, rfl, rfl⟩⟩, fun i hi => ?_⟩
  match i, hi with
  | 0, _ => exact ha.below (alloc_below2 _ _)
  | 1, _ => exact hb.below (alloc_below2 _ _)
  | 2, _ => exact hc.below (alloc_below2 _ _)

theorem tot_three (a b c : List (Int × Int)) : totV [a, b, c] = weightV a + weightV b + weightV c := by
  have : totV [a, b, c] = 0 + weightV a + weightV b + weightV c := rfl
  omega

theorem box_bd {cs : List (Int × Int)} (hs : stoneV cs = true) (K : Nat) (hK : K ≤ cs.length) :
    (-60 ≤ loX cs K ∧ loX cs K ≤ 60) ∧ (-60 ≤ hiX cs K ∧ hiX cs K ≤ 60) ∧ (-60 ≤ loY cs K ∧ loY cs K ≤ 60) ∧ (-60 ≤ hiY cs K ∧ hiY cs K ≤ 60) := by
  have h0 := stone_size hs
  induction K with
  | zero =>
    have := okP_iff.1 (stone_valid hs 0 (by omega))
    exact ⟨this.1, this.1, this.2, this.2⟩
  | succ K ih =>
    have h1 := ih (by omega)
    have h2 := okP_iff.1 (stone_valid hs K (by omega))
    have e1 : loX cs (K + 1) = min (loX cs K) (pt cs K).1 := rfl
    have e2 : loY cs (K + 1) = min (loY cs K) (pt cs K).2 := rfl
    have e3 : hiX cs (K + 1) = max (hiX cs K) (pt cs K).1 := rfl
    have e4 : hiY cs (K + 1) = max (hiY cs K) (pt cs K).2 := rfl
    rw [e1, e2, e3, e4]
    omega

/-- What the law asks of a drawn stone. -/
theorem weigh_facts {cs : List (Int × Int)} (hg : Good cs) {x : Int} (hx : -4 ≤ x ∧ x ≤ 4) :
    mirV cs x = mirL cs x ∧ 0 < weightV cs ∧ weightV (mirL cs x) = weightV cs ∧ momV (mirL cs x) = 2 * x * weightV cs - momV cs ∧ heiV (mirL cs x) = heiV cs ∧
    ((boxV cs loX * weightV cs < momV cs ∧ momV cs < boxV cs hiX * weightV cs) ∧ boxV cs loY * weightV cs < heiV cs ∧ heiV cs < boxV cs hiY * weightV cs) ∧
    leftV cs x = decide (momV cs < x * weightV cs) ∧ totV [cs, mirL cs x, cs] = 3 * weightV cs ∧
    (-60 ≤ boxV cs loX ∧ boxV cs loX ≤ 60) ∧ (-60 ≤ boxV cs hiX ∧ boxV cs hiX ≤ 60) ∧ (-60 ≤ boxV cs loY ∧ boxV cs loY ≤ 60) ∧ (-60 ≤ boxV cs hiY ∧ boxV cs hiY ≤ 60) := by
  obtain ⟨hs, hr, hn⟩ := hg
  have hm := mir_stone hs hr hn hx
  have hxp : inP x = true := inP_iff.2 (by omega)
  obtain ⟨w1, w2, w3⟩ := weigh_mir hs hm hxp
  have hb : ∀ q, boxV cs q = q cs cs.length := fun q => by unfold boxV; rw [hs]; rfl
  have hbox := box_cn hs 0
  have ho := okP_iff.1 (cn_ok hs 0)
  have hw : 0 < weightV cs := by have := area_pos hs hr; unfold weightV; omega
  refine ⟨by unfold mirV; rw [hs, hm]; rfl, hw, w1, w2, w3, by rw [hb, hb, hb, hb]; exact mom_inside hs hr, leftV_yes hs hxp, by rw [tot_three, w1]; omega, ?_⟩
  rw [hb, hb, hb, hb]
  exact box_bd hs cs.length (Nat.le_refl _)

/-! ### THE WALK: the Go text returns true, and writes nothing that was there. -/
set_option maxRecDepth 100000 in
set_option maxHeartbeats 4000000 in
theorem walk (a0 : Option Addr) (len0 cap0 : Nat) (z0 : List Int) (w : World) (g0 : IsRow .u8 w a0 len0 cap0 z0) :
    Calls Try.prog 3 #[.slice a0 len0 cap0] w fun e w' => e = .returned (.bool true) ∧ Below w.heap.size w w' := by
  have hr : IsCode w a0 len0 cap0 z0 := g0
  clear g0
  have hm := (code_cells hr).1
  unfold maxLen at hm
  by_cases hbig : 1048576 < len0
  · clear hr
    go_enter Try.func3, Try.ntmps3
    go_wp2_with (go_at_call 10; refine (big_yes _ _ _ _ (by omega) (by omega)).mono ?_; rintro e w' ⟨rfl, rfl⟩)
    go_ret
    exact ⟨rfl, Below.refl _ _⟩
  · go_enter Try.func3, Try.ntmps3
    go_wp2_with fail
    refine (big_no _ _ _ _ (by omega) (by omega)).mono ?_
    rintro e w' ⟨rfl, rfl⟩
    go_wp2_with fail
    refine (drawStone _ _ _ _ _ hr).mono ?_
    rintro e w1 ⟨u, cs, hg, rfl, hrow, hb1⟩
    obtain ⟨ua, uc, hu, hul⟩ := row_sliceS hrow
    have HR := Lib.hid hr
    have HGd := Lib.hid hg
    have RS1 := Lib.hid (hrow.below (alloc_below2 w1 (.cells #[u] 26)))
    have HB1 := Lib.hid (below_al2 hb1 (.cells #[u] 26))
    generalize hN : cs.length = N at *
    subst hu
    have hs1 : (w1.alloc (.cells #[.slice ua N uc] 26)).cell? ⟨w1.heap.size, 0, none⟩ = some (.slice ua N uc) := by go_simp
    have HN := Lib.hid hN
    have HS1 := Lib.hid hs1
    clear hr hg hrow hb1 hN hs1
    go_wp2_with fail
    refine (at_any _ _ _ _ z0 0 (by omega) (HR.out.below HB1.out)).mono ?_
    rintro e w' ⟨t, ht0, ht1, rfl, rfl⟩
    have ks1 := HS1.out
    go_wp2_with fail
    have hx : -4 ≤ t % 9 - 4 ∧ t % 9 - 4 ≤ 4 := by omega
    generalize t % 9 - 4 = x at *
    obtain ⟨f1, f2, f3, f4, f5, f6, f7, f8, f9⟩ := weigh_facts HGd.out hx
    have F1 := Lib.hid f1
    have F3 := Lib.hid f3
    have F4 := Lib.hid f4
    have F5 := Lib.hid f5
    have F7 := Lib.hid f7
    have F8 := Lib.hid f8
    clear f1 f3 f4 f5 f7 f8 ks1
    refine World.any (p := fun W => Calls _ _ _ W _) (fun W hW => ?_)
    have hKW : Known W [(w1.heap.size, 0, .slice ua N uc)] := by subst hW; exact (Known.nil _).cons HS1.out
    have hRW : Row W w.heap.size (.slice ua N uc) cs := by subst hW; exact RS1.out
    have hBW : Below w.heap.size w W := by subst hW; exact HB1.out
    clear hW HS1 RS1 HB1 HR HGd
    refine (specMirrorStone _ _ _ cs x hRW).mono ?_
    rintro e w2 ⟨um, rfl, hrm, hb2⟩
    rw [F1.out] at hrm
    obtain ⟨ma, mc, hum, -⟩ := row_sliceS hrm
    rw [mirL_length, HN.out] at hum
    subst hum
    have hb02 := below_al2 (hBW.trans (hb2.mono hBW.size)) (.cells #[.slice ma N mc] 26)
    have KW2 := Lib.hid (((hKW.below hb2).alloc (.cells #[.slice ma N mc] 26)).cons (b := w2.heap.size) (o := 0) (v := .slice ma N mc) (by go_simp))
    have RS2 := Lib.hid ((hRW.below hb2).below (alloc_below2 w2 (.cells #[.slice ma N mc] 26)))
    have RM2 := Lib.hid ((hrm.base hBW.size).below (alloc_below2 w2 (.cells #[.slice ma N mc] 26)))
    have HB2 := Lib.hid hb02
    have k2 := KW2.out
    simp only [known_cons] at k2
    obtain ⟨km, ks, -⟩ := k2
    clear hb02 hKW hRW hBW hrm hb2
    go_wp2_with fail
    clear km ks
    refine World.any (p := fun W => Calls _ _ _ W _) (fun W3 hW => ?_)
    have hKW : Known W3 [(w2.heap.size, 0, .slice ma N mc), (w1.heap.size, 0, .slice ua N uc)] := by subst hW; exact KW2.out
    have hRS : Row W3 w.heap.size (.slice ua N uc) cs := by subst hW; exact RS2.out
    have hRM : Row W3 w.heap.size (.slice ma N mc) (mirL cs x) := by subst hW; exact RM2.out
    have hBW : Below w.heap.size w W3 := by subst hW; exact HB2.out
    clear hW KW2 RS2 RM2 HB2
    refine (specBoxOf _ _ _ cs hRS).mono ?_
    rintro e w3 ⟨rfl, hb3⟩
    generalize boxV cs loX = L1 at *
    generalize boxV cs loY = L2 at *
    generalize boxV cs hiX = H1 at *
    generalize boxV cs hiY = H2 at *
    have hb03 := below_al2 (below_al2 (hBW.trans (hb3.mono hBW.size)) (.cells #[.int .i64 L1, .int .i64 L2] 31)) (.cells #[.int .i64 H1, .int .i64 H2] 31)
    have h2al := (alloc_below2 w3 (.cells #[.int .i64 L1, .int .i64 L2] 31)).alloc (by simp) (.cells #[.int .i64 H1, .int .i64 H2] 31)
    have KW3 := Lib.hid (((((hKW.below hb3).below h2al).cons (b := w3.heap.size + 1) (o := 1) (v := .int .i64 H2) (by go_simp)).cons (b := w3.heap.size + 1) (o := 0) (v := .int .i64 H1) (by go_simp)).cons (b := w3.heap.size) (o := 1) (v := .int .i64 L2) (by go_simp) |>.cons (b := w3.heap.size) (o := 0) (v := .int .i64 L1) (by go_simp))
    have RS3 := Lib.hid ((hRS.below hb3).below h2al)
    have RM3 := Lib.hid ((hRM.below hb3).below h2al)
    have HB3 := Lib.hid hb03
    have k3 := KW3.out
    simp only [known_cons] at k3
    obtain ⟨-, -, -, -, km, ks, -⟩ := k3
    clear hb03 hKW hRS hRM hBW hb3 h2al
    go_wp2_with fail
    clear km ks
    refine World.any (p := fun W => Calls _ _ _ W _) (fun W4 hW => ?_)
    have hKW : Known W4 [(w3.heap.size, 0, .int .i64 L1), (w3.heap.size, 1, .int .i64 L2), (w3.heap.size + 1, 0, .int .i64 H1), (w3.heap.size + 1, 1, .int .i64 H2), (w2.heap.size, 0, .slice ma N mc), (w1.heap.size, 0, .slice ua N uc)] := by subst hW; exact KW3.out
    have hRS : Row W4 w.heap.size (.slice ua N uc) cs := by subst hW; exact RS3.out
    have hRM : Row W4 w.heap.size (.slice ma N mc) (mirL cs x) := by subst hW; exact RM3.out
    have hBW : Below w.heap.size w W4 := by subst hW; exact HB3.out
    clear hW KW3 RS3 RM3 HB3
    obtain ⟨b1, b2, b3, b4⟩ := f9
    obtain ⟨⟨i1, i2⟩, i3, i4⟩ := f6
    have bw := weightV_bd cs
    have bm := momV_bd cs
    have bh := heiV_bd cs
    have ba := areaV_bd cs
    have hwa : weightV cs = 3 * areaV cs := rfl
    have m1 := mul_bd (x := L1) (y := weightV cs) 60 129600 b1 bw
    have m2 := mul_bd (x := H1) (y := weightV cs) 60 129600 b2 bw
    have m3 := mul_bd (x := L2) (y := weightV cs) 60 129600 b3 bw
    have m4 := mul_bd (x := H2) (y := weightV cs) 60 129600 b4 bw
    have m5 := mul_bd (x := x) (y := weightV cs) 60 129600 ⟨by omega, by omega⟩ bw
    have m6 := mul_bd (x := 2 * x) (y := weightV cs) 60 129600 ⟨by omega, by omega⟩ bw
    have HWt := Lib.hid (fun (w' : World) h => implWeightOf w' w.heap.size (.slice ua N uc) cs h)
    have HMo := Lib.hid (fun (w' : World) h => implMomentOf w' w.heap.size (.slice ua N uc) cs h)
    have HHe := Lib.hid (fun (w' : World) h => implHeightMoment w' w.heap.size (.slice ua N uc) cs h)
    have HAr := Lib.hid (fun (w' : World) h => implAreaTwice w' w.heap.size (.slice ua N uc) cs h)
    have HLe := Lib.hid (fun (w' : World) h => implIsLeftOf w' w.heap.size (.slice ua N uc) cs x h)
    have HWm := Lib.hid (fun (w' : World) h => F3.out ▸ implWeightOf w' w.heap.size (.slice ma N mc) (mirL cs x) h)
    have HMm := Lib.hid (fun (w' : World) h => F4.out ▸ implMomentOf w' w.heap.size (.slice ma N mc) (mirL cs x) h)
    have HHm := Lib.hid (fun (w' : World) h => F5.out ▸ implHeightMoment w' w.heap.size (.slice ma N mc) (mirL cs x) h)
    have HTo := Lib.hid (fun (w' : World) v h => F8.out ▸ implTotalWeight w' w.heap.size v [cs, mirL cs x, cs] h)
    rw [F7.out] at HLe
    have e1 : IntKind.i64.wrap (3 * areaV cs) = weightV cs := by rw [IntWalk.i64_in _ (by omega)]; omega
    obtain ⟨MM, hMM⟩ : ∃ z, 2 * x * weightV cs - momV cs = z := ⟨_, rfl⟩
    obtain ⟨X2, hX2⟩ : ∃ z, 2 * x = z := ⟨_, rfl⟩
    obtain ⟨Y, hY⟩ : ∃ z, X2 * weightV cs = z := ⟨_, rfl⟩
    have e2 : IntKind.i64.wrap (2 * x) = X2 := (IntWalk.i64_in _ (by omega)).trans hX2
    rw [hX2] at m6 hMM
    have e3 : IntKind.i64.wrap (X2 * weightV cs) = Y := (IntWalk.i64_in _ (by omega)).trans hY
    rw [hX2] at HMm
    rw [hY] at m6 hMM HMm
    have e4 : IntKind.i64.wrap (Y - momV cs) = MM := (IntWalk.i64_in _ (by omega)).trans hMM
    rw [hMM] at HMm
    obtain ⟨P1, hP1⟩ : ∃ z, L1 * weightV cs = z := ⟨_, rfl⟩
    obtain ⟨P2, hP2⟩ : ∃ z, H1 * weightV cs = z := ⟨_, rfl⟩
    obtain ⟨P3, hP3⟩ : ∃ z, L2 * weightV cs = z := ⟨_, rfl⟩
    obtain ⟨P4, hP4⟩ : ∃ z, H2 * weightV cs = z := ⟨_, rfl⟩
    obtain ⟨P5, hP5⟩ : ∃ z, x * weightV cs = z := ⟨_, rfl⟩
    obtain ⟨Z3, hZ3⟩ : ∃ z, 3 * weightV cs = z := ⟨_, rfl⟩
    have e5 : IntKind.i64.wrap (L1 * weightV cs) = P1 := (IntWalk.i64_in _ (by omega)).trans hP1
    have e6 : IntKind.i64.wrap (H1 * weightV cs) = P2 := (IntWalk.i64_in _ (by omega)).trans hP2
    have e7 : IntKind.i64.wrap (L2 * weightV cs) = P3 := (IntWalk.i64_in _ (by omega)).trans hP3
    have e8 : IntKind.i64.wrap (H2 * weightV cs) = P4 := (IntWalk.i64_in _ (by omega)).trans hP4
    have e9 : IntKind.i64.wrap (x * weightV cs) = P5 := (IntWalk.i64_in _ (by omega)).trans hP5
    have e10 : IntKind.i64.wrap (3 * weightV cs) = Z3 := (IntWalk.i64_in _ (by omega)).trans hZ3
    rw [hP1] at i1
    rw [hP2] at i2
    rw [hP3] at i3
    rw [hP4] at i4
    rw [hP5] at HLe
    rw [hZ3] at HTo
    clear hwa m1 m2 m3 m4 m5 m6 bw bm bh ba b1 b2 b3 b4 hMM hX2 hY hP1 hP2 hP3 hP4 hP5 hZ3 F1 F3 F4 F5 F7 F8 HN hul hx ht0 ht1
    generalize weightV cs = Wt at *
    generalize momV cs = M at *
    generalize heiV cs = H at *
    generalize areaV cs = A at *
    generalize mirL cs x = ms at *
    have E1 := Lib.hid e1
    have E2 := Lib.hid e2
    have E3 := Lib.hid e3
    have E4 := Lib.hid e4
    have E5 := Lib.hid e5
    have E6 := Lib.hid e6
    have E7 := Lib.hid e7
    have E8 := Lib.hid e8
    have E9 := Lib.hid e9
    have E10 := Lib.hid e10
    clear e1 e2 e3 e4 e5 e6 e7 e8 e9 e10
    refine (HWt.out _ hRS).mono ?_
    rintro e w5 ⟨rfl, hb5⟩
    have K5 := Lib.hid (hKW.below hb5)
    have RS5 := Lib.hid (hRS.below hb5)
    have RM5 := Lib.hid (hRM.below hb5)
    have HB5 := Lib.hid (hBW.trans (hb5.mono hBW.size))
    have ks := (hKW.below hb5) (w1.heap.size, 0, .slice ua N uc) (by simp)
    clear hb5 hKW hRS hRM hBW
    go_wp2_with fail
    refine (HMo.out _ RS5.out).mono ?_
    rintro e w6 ⟨rfl, hb6⟩
    have K6 := Lib.hid (K5.out.below hb6)
    have RS6 := Lib.hid (RS5.out.below hb6)
    have RM6 := Lib.hid (RM5.out.below hb6)
    have HB6 := Lib.hid (HB5.out.trans (hb6.mono HB5.out.size))
    clear ks
    have ks := (K5.out.below hb6) (w1.heap.size, 0, .slice ua N uc) (by simp)
    clear hb6 K5 RS5 RM5 HB5
    go_wp2_with fail
    refine (HHe.out _ RS6.out).mono ?_
    rintro e w7 ⟨rfl, hb7⟩
    have K7 := Lib.hid (K6.out.below hb7)
    have RS7 := Lib.hid (RS6.out.below hb7)
    have RM7 := Lib.hid (RM6.out.below hb7)
    have HB7 := Lib.hid (HB6.out.trans (hb7.mono HB6.out.size))
    clear ks hb7 K6 RS6 RM6 HB6 HWt HMo HHe
    have e1 := E1.out
    have e2 := E2.out
    have e3 := E3.out
    have e4 := E4.out
    have e5 := E5.out
    have e6 := E6.out
    have e7 := E7.out
    have e8 := E8.out
    have e9 := E9.out
    have e10 := E10.out
    obtain ⟨kl1, kl2, kh1, kh2, km, ks⟩ := known6 K7.out
    go_wp2_with fail
    refine (HAr.out _ RS7.out).mono ?_
    rintro e w8 ⟨rfl, hb8⟩
    have K8 := Lib.hid (K7.out.below hb8)
    have RS8 := Lib.hid (RS7.out.below hb8)
    have RM8 := Lib.hid (RM7.out.below hb8)
    have HB8 := Lib.hid (HB7.out.trans (hb8.mono HB7.out.size))
    clear kl1 kl2 kh1 kh2 km ks hb8 K7 RS7 RM7 HB7
    obtain ⟨kl1, kl2, kh1, kh2, km, ks⟩ := known6 K8.out
    go_wp2_with fail
    refine (HWm.out _ RM8.out).mono ?_
    rintro e w9 ⟨rfl, hb9⟩
    have K9 := Lib.hid (K8.out.below hb9)
    have RS9 := Lib.hid (RS8.out.below hb9)
    have RM9 := Lib.hid (RM8.out.below hb9)
    have HB9 := Lib.hid (HB8.out.trans (hb9.mono HB8.out.size))
    clear kl1 kl2 kh1 kh2 km ks hb9 K8 RS8 RM8 HB8
    obtain ⟨kl1, kl2, kh1, kh2, km, ks⟩ := known6 K9.out
    go_wp2_with fail
    refine (HMm.out _ RM9.out).mono ?_
    rintro e w10 ⟨rfl, hb10⟩
    have K10 := Lib.hid (K9.out.below hb10)
    have RS10 := Lib.hid (RS9.out.below hb10)
    have RM10 := Lib.hid (RM9.out.below hb10)
    have HB10 := Lib.hid (HB9.out.trans (hb10.mono HB9.out.size))
    clear kl1 kl2 kh1 kh2 km ks hb10 K9 RS9 RM9 HB9
    obtain ⟨kl1, kl2, kh1, kh2, km, ks⟩ := known6 K10.out
    go_wp2_with fail
    refine (HHm.out _ RM10.out).mono ?_
    rintro e w11 ⟨rfl, hb11⟩
    have K11 := Lib.hid (K10.out.below hb11)
    have RS11 := Lib.hid (RS10.out.below hb11)
    have RM11 := Lib.hid (RM10.out.below hb11)
    have HB11 := Lib.hid (HB10.out.trans (hb11.mono HB10.out.size))
    clear kl1 kl2 kh1 kh2 km ks hb11 K10 RS10 RM10 HB10
    obtain ⟨kl1, kl2, kh1, kh2, km, ks⟩ := known6 K11.out
    go_wp2_with fail
    refine (HLe.out _ RS11.out).mono ?_
    rintro e w12 ⟨rfl, hb12⟩
    have K12 := Lib.hid (K11.out.below hb12)
    have RS12 := Lib.hid (RS11.out.below hb12)
    have RM12 := Lib.hid (RM11.out.below hb12)
    have HB12 := Lib.hid (HB11.out.trans (hb12.mono HB11.out.size))
    clear kl1 kl2 kh1 kh2 km ks hb12 K11 RS11 RM11 HB11
    obtain ⟨kl1, kl2, kh1, kh2, km, ks⟩ := known6 K12.out
    go_wp2_with fail
    refine (HTo.out _ _ (SRow.three HB12.out.size RS12.out RM12.out RS12.out)).mono ?_
    rintro e w13 ⟨rfl, hb13⟩
    have HB13 := Lib.hid ((below_al2 HB12.out _).trans (hb13.mono (below_al2 HB12.out _).size))
    clear kl1 kl2 kh1 kh2 km ks hb13
    go_wp2_with fail
    go_ret
    exact ⟨rfl, HB13.out⟩

/-! ### THE ROW's STEP -/
set_option maxRecDepth 100000 in
theorem lifted (os : Os) (started : os.Started) (H : Type) (enc : TypeId × Value → H) :
    ReturnsInHanded {} Try.checked os 3 .any (Rows.fnWeightsSpec.pre6 enc Try.prog Try.f3 Rows.fnWeightsRow.domain false) (Rows.fnWeightsSpec.post enc Try.prog Try.f3 false true false false) := by
  refine returnsInHanded_of_change (C := Try.checked) own started (by kernel_rfl) Try.func3
    (ChangeSpec.witness6 (enc := enc) (C := Try.checked) false ⟨#[], #[.slice none 0 0], []⟩ 8 (by kernel_rfl) (by kernel_rfl) (by kernel_rfl) (by kernel_rfl)) ?_
  intro W base args ds gs before hval0 hW hcnd _
  have hval : ∀ (j : Nat) t v, Try.f3.params[j]? = some t → args[j]? = some v → Value.okWide Try.prog W .any base t v := hval0
  have hW' := hW
  obtain ⟨p, q, hA0, hV, rfl, hfz, hnd⟩ := hW
  have hA : DataW.TrodAll enc Try.prog W 0 (fun _ => true) true Try.f3.params.toList args.toList ds p := hA0
  rw [Try.params3] at hA hval
  obtain ⟨v0, vs0, d0, ds0, p0, q0, hargs, rfl, rfl, h0, r0⟩ := trodAll_cons hA
  obtain ⟨rfl, rfl, rfl⟩ := trodAll_nil r0
  obtain rfl : args = #[v0] := by cases args; simp_all
  obtain ⟨rfl, rfl⟩ := trodVars_none hV
  have k0 := h0
  have lt0 : ∀ x ∈ p0, x.block < W.heap.size := by obtain ⟨m, hm⟩ := k0; exact DataW.trod_lt m _ _ _ hm
  obtain ⟨a0, len0, cap0, rfl⟩ := okWide_slice Try.underlying22 (hval 0 22 v0 rfl rfl)
  obtain ⟨z0, g0⟩ : ∃ zs, IsRow .u8 W a0 len0 cap0 zs := by
    obtain ⟨fuel, hf⟩ := h0
    rcases open_ints Try.underlying22 Try.underlying5 (by kernel_rfl) hf with ⟨hcs, _⟩ | ⟨x, l, c, zs, hcs, _, hl, hm, hz, _, hcell, hwz⟩
    · simp [Value.cells] at hcs
      obtain ⟨rfl, rfl, rfl⟩ := hcs
      exact ⟨[], .inl ⟨rfl, rfl, rfl, rfl⟩⟩
    · simp [Value.cells] at hcs
      obtain ⟨rfl, rfl, rfl⟩ := hcs
      exact ⟨zs, .inr ⟨_, rfl, hl, hm, by simpa using hz, hcell, hwz⟩⟩
  clear hA0 hval0
  refine (walk a0 len0 cap0 z0 W g0).mono fun e W' ⟨he, bel⟩ => ?_
  subst he
  exact ⟨_, rfl, _, _, _, [], _, [], hW', trodAll_mk1 (shut_bool Try.underlying4 _), (trodAll_cons_mk (Below.trod laidOut (by kernel_rfl) (of_decide_eq_true (by kernel_rfl)) k0 bel lt0) trodAll_mk0), rfl, bel.frame _, fun h => by cases h⟩

theorem over : Rows.fnWeightsRow.holds Try.pinned (OpenSpec.ofChange Rows.fnWeightsSpec) :=
  OpenClaim.holds_of_wide 3 Try.f3 rfl rfl rfl rfl rfl rfl rfl ⟨rfl, rfl, rfl, rfl, rfl⟩ rfl rfl rfl rfl rfl (by kernel_rfl) Try.func3 (by kernel_rfl)
    (of_decide_eq_true (by kernel_rfl)) (by unfold Func.isWrapper; first | (rw [if_pos (by decide +kernel)]; kernel_rfl) | (rw [if_neg (by decide +kernel)]; exact ⟨rfl, rfl⟩))
    (fun os started H enc _ => lifted os started H enc)

/-- THE STATEMENT. -/
theorem proved : Rows.FnWeightsSaid := over
#print axioms proved
end Go.Proofs.Ytikdjcmdeapikaa.fnWeights
