/- Lines of thrust: the contracts of the model's PlacesOf, MarginOf, InMiddle, HighestJoint, TouchedJoints. -/
import Derived.Test.YtbmlcfdilopmgabGLine
import Derived.Test.YtbmlcfdilopmgabPushS
namespace Go.Proofs.Ytbmlcfdilopmgab
set_option maxRecDepth 100000
set_option linter.unusedVariables false
set_option linter.unusedSimpArgs false
open Go.ChangeShapes Go.WideShapes Go.ChangeAt Go.RowKit

theorem Try.infoISs : (Try.prog.info? 46).map (fun i => (i.zero, i.size, i.bytes)) = some (some (.slice none 0 0), 1, 24) := by kernel_rfl
set_option maxHeartbeats 8000000 in
theorem specPlacesOf (w : World) (B B2 g cap n : Nat) (la : Option Addr) (m lc : Nat) (js : List Jt) (ls : List Ld) (th tv tm td : Int) (hr : JRowAt w B g cap js) (hn : js.length = n) (hs : n ≤ 1048576) (hl : Lds w B2 la m lc ls) :
    Calls Try.prog 28 #[.agg #[.slice (some ⟨g, 0, none⟩) n cap], .slice la m lc, .agg #[.int .i64 th, .int .i64 tv, .int .i64 tm, .int .i64 td]] w fun e w' => ∃ x, e = .returned x ∧ QR w' w.heap.size x (lineV js ls th tv tm td) ∧ Below w.heap.size w w' := by
  obtain ⟨i0, hi0, hz0, hz1, hz2⟩ := info_parts Try.infoISs
  obtain ⟨-, hgw, hc, hcm⟩ := hr.lt
  rw [hn] at hc
  unfold maxLen at hcm
  have HP := Lib.hid (fun (W : World) (hW : Below w.heap.size w W) (k : Nat) => (show Calls Try.prog 41 #[.agg #[.slice (some ⟨g, 0, none⟩) n cap], .slice la m lc, .agg #[.int .i64 th, .int .i64 tv, .int .i64 tm, .int .i64 td], .int .i64 k] W fun e w' => e = .returned (.tuple #[.int .i64 (plX js ls th tv tm td k).1, .int .i64 (plX js ls th tv tm td k).2, .bool (plAt js ls th tv tm td k)]) ∧ Below W.heap.size W w' from
    specPlaceAt W B B2 g cap n la m lc js ls th tv tm td k (hr.below hW) hn hs (hl.below hW)))
  have H8 := Lib.hid (fun (k : Nat) (hk : k < n) (ha : plAt js ls th tv tm td k = true) => (show n ≤ 8 by
    cases ho : phOk js ls th tv tm td (k : Nat)
    · unfold plAt at ha
      rw [phA_no ho, phB_no ho] at ha
      exact absurd ha (by decide)
    · have h38 := arch_size (loadsV_iff.1 (phOk_iff.1 ho).1).1
      omega))
  have HY := Lib.hid (fun (h : allV n (plAt js ls th tv tm td) = true) => lineV_yes (js := js) (ls := ls) (h := th) (v := tv) (m := tm) (d := td) (by rw [hn]; exact h))
  have HN := Lib.hid (fun (h : allV n (plAt js ls th tv tm td) = false) => lineV_no (js := js) (ls := ls) (h := th) (v := tv) (m := tm) (d := td) (by rw [hn]; exact h))
  rw [hn] at HY
  have HZ := Lib.hid (allFrom_zero n (plAt js ls th tv tm td))
  generalize lineV js ls th tv tm td = V at *
  generalize plAt js ls th tv tm td = f at *
  generalize plX js ls th tv tm td = q at *
  have HB0 := Lib.hid ((abox_below w g n cap th tv tm td).alloc (by simp <;> omega) (.cells #[] 46))
  have HX0 := Lib.hid ((abox_alloc w g n cap th tv tm td).below (cd_al _ (.cells #[] 46)))
  have HQ0 := Lib.hid (qq_empty ((w.alloc (.cells #[.slice (some ⟨g, 0, none⟩) n cap] 34)).alloc (.cells #[.int .i64 th, .int .i64 tv, .int .i64 tm, .int .i64 td] 38)) (w.heap.size + 2) (by simp))
  simp only [World.size_alloc] at HQ0
  clear hr hn hl hgw
  obtain ⟨x0, x1, x2, x3, x4⟩ := HX0.out
  go_enter Try.func28, Try.ntmps28
  go_wp2_with fail
  go_loopw [7, 8, 9, 10, 11] (fun s t _ _ _ wr => ∃ (k : Nat) (a : Option Addr) (cp : Nat) (gs : List Nat), k ≤ n ∧ t = .int .i64 k ∧ s = .slice a k cp ∧ gs.length = k ∧ QQ wr (w.heap.size + 2) (.slice a k cp) gs (lnTo q k) ∧ allFrom n k f = allFrom n 0 f ∧ (k = 0 ∨ n ≤ 8) ∧ Below w.heap.size w wr ∧ ABox wr w.heap.size (.slice (some ⟨g, 0, none⟩) n cap) th tv tm td)
    (fun _ t _ _ _ _ => n - (intOf t).toNat)
  case atStart => exact ⟨0, some ⟨w.heap.size + 2, 0, none⟩, 0, [], Nat.zero_le _, rfl, rfl, rfl, HQ0.out, rfl, .inl rfl, HB0.out, HX0.out⟩
  case round =>
    clear HB0 HX0 HQ0 x0 x1 x2 x3 x4
    obtain ⟨k, a, cp, gs, hk, rfl, rfl, hgl, hq, hall, h8, hbw, hbx⟩ := hrel
    have HB := Lib.hid hbw
    have HX := Lib.hid hbx
    have HQ := Lib.hid hq
    have HA := Lib.hid hall
    have HGL := Lib.hid hgl
    have hw2 := hbx.lt
    obtain ⟨x0, x1, x2, x3, x4⟩ := hbx
    clear hall hbw hq h8 hgl
    by_cases hlt : k < n
    · have hkn : (k : Int) < (n : Int) := by omega
      have HPK := Lib.hid (HP.out _ HB.out k)
      cases hf : f k
      · have HV := Lib.hid (show V = [] from HN.out (by rw [← HZ.out, ← HA.out, allFrom_no hlt hf]))
        rw [hf] at HPK
        clear hf
        generalize q k = Q at *
        go_wp2_with fail
        refine HPK.out.mono ?_
        rintro e w1 ⟨rfl, hb1⟩
        have HB1 := Lib.hid (HB.out.trans (hb1.mono HB.out.size))
        clear hb1
        go_wp2_with fail
        go_ret
        exact ⟨_, rfl, by rw [HV.out]; exact ⟨[], qq_empty w1 w.heap.size HB1.out.size⟩, cal HB1.out _⟩
      · have h8 := H8.out k hlt hf
        have HF := Lib.hid hf
        have HNX := Lib.hid (lnTo_next q k)
        rw [hf] at HPK
        clear hf
        obtain ⟨⟨x, y⟩, hqk⟩ : ∃ p, q k = p := ⟨_, rfl⟩
        rw [hqk] at HPK HNX
        clear hqk
        go_wp2_with fail
        refine HPK.out.mono ?_
        rintro e Z ⟨rfl, hb1⟩
        have HB2 := Lib.hid (HB.out.trans (hb1.mono HB.out.size))
        have HX1 := Lib.hid (HX.out.below hb1)
        have HQ2 := Lib.hid (HQ.out.below hb1)
        have hZ2 := HX1.out.lt
        clear hb1 x0 x1 x2 x3 x4
        have HO2 := Lib.hid (show (Z.alloc (.cells #[.int .i64 x, .int .i64 y] 3)).ownsRow (w.heap.size + 2) 46 1 (.slice a k cp) k (twos gs) from by have := World.ownsRow.alloc HQ2.out.row (.cells #[.int .i64 x, .int .i64 y] 3); rwa [HGL.out] at this)
        have HU : RowKit.Hid (InRow (Z.alloc (.cells #[.int .i64 x, .int .i64 y] 3)) (w.heap.size + 2) (.slice (some ⟨Z.heap.size, 0, none⟩) 2 2) (twoI (x, y))) := Lib.hid (World.ownsRow_lit (base := w.heap.size + 2) (e := 3) (size := 1) Z #[.int .i64 x, .int .i64 y] 2 hZ2 (by unfold maxLen; omega) rfl)
        obtain ⟨hcc, hcm2⟩ := own_cap HO2.out
        unfold maxLen at hcm2
        go_wp2_with (at_builtin; refine wpList_append_lies _ rfl _ _ _ rfl (w.heap.size + 2) 46 i0 _ 1 24 Try.underlying53 hi0 hz0 hz1 hz2 rfl (by omega) (.slice a k cp) k (twos gs) (by rfl) (World.ownsRow.alloc HO2.out _) ⟨Z.heap.size + 1, 0, none⟩ 1 1 [.slice (some ⟨Z.heap.size, 0, none⟩) 2 2] (by first | rfl | simp) (by rfl) (World.news_of_block (cs := #[.slice (some ⟨Z.heap.size, 0, none⟩) 2 2]) (t := 46) (fr := (0, 0)) (by have := heap_alloc_new (Z.alloc (.cells #[.int .i64 x, .int .i64 y] 3)) (.cells #[.slice (some ⟨Z.heap.size, 0, none⟩) 2 2] 46); simpa using this)) (by simp [Value.oneCell']) (by omega) (by unfold maxLen; omega) (by omega) (by first | omega | (simp; omega)) (Z.heap.size + 2) (by simp) ?_; intro g5 cp5 w6 hown6 hgrow6 hat6 hgl6; have HO6 := Lib.hid hown6; have HG6 := Lib.hid hgrow6; clear hown6 hgrow6 hat6 hgl6)
        have hb6 : Below w.heap.size w ((Z.alloc (.cells #[.int .i64 x, .int .i64 y] 3)).alloc (.cells #[.slice (some ⟨Z.heap.size, 0, none⟩) 2 2] 46)) := (HB2.out.alloc HB2.out.size _).alloc (by simp; omega) _
        have hoy := World.ownsRow.alloc HO2.out (.cells #[.slice (some ⟨Z.heap.size, 0, none⟩) 2 2] 46)
        have HB6 : RowKit.Hid (Below w.heap.size w w6) := Lib.hid (hb6.grown HG6.out (by simp; omega) (fun j hj => by have := (World.ownsRow.lt hoy j hj).1; omega))
        have HX6 : RowKit.Hid (ABox w6 w.heap.size (.slice (some ⟨g, 0, none⟩) n cap) th tv tm td) := Lib.hid (((HX1.out.below (cd_al _ _)).below (cd_al _ _)).far hoy HG6.out)
        have HQ6 : RowKit.Hid (QQ w6 (w.heap.size + 2) (.slice (some ⟨g5, 0, none⟩) (k + 1) cp5) (gs ++ [Z.heap.size]) (lnTo q (k + 1))) := Lib.hid (by
          rw [HNX.out]
          have q0 : QQ ((Z.alloc (.cells #[.int .i64 x, .int .i64 y] 3)).alloc (.cells #[.slice (some ⟨Z.heap.size, 0, none⟩) 2 2] 46)) (w.heap.size + 2) (.slice a k cp) gs (lnTo q k) := (HQ2.out.below (cd_al Z _)).below (cd_al _ _)
          refine q0.push (HU.out.below (cd_al _ _)) (fun i hi => ?_) HG6.out ?_
          · exact (two_ge (HQ2.out.two i hi)).2
          · rw [HGL.out]; exact HO6.out)
        have HA6 := Lib.hid ((allFrom_yes hlt HF.out).trans HA.out)
        clear hb6 hoy
        go_wp2_with fail
        go_roundw
        case rel => exact ⟨k + 1, _, _, _, hlt, by go_num, rfl, by rw [List.length_append, HGL.out]; rfl, HQ6.out, HA6.out, .inr h8, HB6.out, HX6.out⟩
        case measure => simp [intOf]; omega
    · have hkn : k = n := by omega
      have HV := Lib.hid (show V = lnTo q k by rw [hkn]; exact HY.out (by rw [← HZ.out, ← HA.out, hkn, allFrom_end]))
      clear hkn
      go_wp2_with fail
      go_ret
      exact ⟨_, rfl, by rw [HV.out]; exact ⟨gs, HQ.out.base (by omega)⟩, HB.out⟩

set_option maxHeartbeats 8000000 in
theorem specMarginOf (w : World) (B B2 g cap n : Nat) (la : Option Addr) (m lc : Nat) (js : List Jt) (ls : List Ld) (th tv tm td : Int) (hr : JRowAt w B g cap js) (hn : js.length = n) (hs : n ≤ 1048576) (hl : Lds w B2 la m lc ls) :
    Calls Try.prog 9 #[.agg #[.slice (some ⟨g, 0, none⟩) n cap], .slice la m lc, .agg #[.int .i64 th, .int .i64 tv, .int .i64 tm, .int .i64 td]] w fun e w' => e = .returned (.tuple #[.int .i64 (maQ (lineV js ls th tv tm td)).1, .int .i64 (maQ (lineV js ls th tv tm td)).2, .bool (maOk (lineV js ls th tv tm td))]) ∧ Below w.heap.size w w' := by
  have HL := Lib.hid (fun (W : World) (hW : Below w.heap.size w W) => specPlacesOf W B B2 g cap n la m lc js ls th tv tm td (hr.below hW) hn hs (hl.below hW))
  have HP := Lib.hid (lineV_pls js ls th tv tm td)
  have hsm := lineV_small js ls th tv tm td
  generalize lineV js ls th tv tm td = V at *
  have HB0 := Lib.hid (abox_below w g n cap th tv tm td)
  have HX0 := Lib.hid (abox_alloc w g n cap th tv tm td)
  clear hr hn hl
  obtain ⟨x0, x1, x2, x3, x4⟩ := HX0.out
  go_enter Try.func9, Try.ntmps9
  go_wp2_with fail
  refine (HL.out _ HB0.out).mono ?_
  rintro e w1 ⟨lv, rfl, ⟨gs, hq⟩, hb1⟩
  obtain ⟨a, lcp, rfl, hnc, hcm⟩ := hq.slice
  have hlen := hq.len
  obtain ⟨N, hN⟩ : ∃ N, N = gs.length := ⟨_, rfl⟩
  rw [← hN] at hq hnc hlen ⊢
  have HB1 := Lib.hid (HB0.out.trans (hb1.mono HB0.out.size))
  have HQ := Lib.hid hq
  have HGN := Lib.hid hN
  unfold maxLen at hcm
  have hN8 : N ≤ 8 := by omega
  have HLN := Lib.hid hlen
  clear hb1 hq HB0 HX0 x0 x1 x2 x3 x4 HL
  by_cases hN0 : N = 0
  · obtain ⟨e1, e2⟩ := maQ_no (l := V) (by omega)
    have HE := Lib.hid (And.intro e1 e2)
    have hb : ((N : Int) == 0) = true := by simp [hN0]
    clear e1 e2 hlen hN
    go_wp2_with fail
    refine bodyPost_ret (v := .tuple #[.int .i64 0, .int .i64 0, .bool false]) (by simp [results, Try.results9, go_sem]) rfl ⟨by rw [HE.out.1, HE.out.2], HB1.out⟩
  · obtain ⟨e1, e2⟩ := maQ_yes (l := V) (by omega)
    have HE := Lib.hid (And.intro e1 e2)
    have hb : ((N : Int) == 0) = false := by simp [hN0]
    clear e1 e2 hlen hN
    go_wp2_with fail
    go_loopw [10, 11, 12, 13, 14] (fun s10 s11 t _ _ wr => ∃ (k : Nat), k ≤ N ∧ t = .int .i64 k ∧ s10 = .int .i64 (mrTo V k).1 ∧ s11 = .int .i64 (mrTo V k).2 ∧ Below w1.heap.size w1 wr)
      (fun _ _ t _ _ _ => N - (intOf t).toNat)
    case atStart => exact ⟨0, Nat.zero_le _, rfl, rfl, rfl, Below.refl _ _⟩
    case round =>
      obtain ⟨k, hk, rfl, rfl, rfl, hbw⟩ := hrel
      have HB := Lib.hid hbw
      by_cases hlt : k < N
      · have hkg : k < gs.length := by have := HGN.out; omega
        have hqw := HQ.out.below hbw
        obtain ⟨bb, rfl, a0⟩ := hqw.at k hkg
        obtain ⟨i0, i1⟩ := two_cells (hqw.two k hkg)
        generalize gs.getD k 0 = gk at *
        have hy := mrTo_yes (l := V) (k := k)
        have hno := mrTo_no (l := V) (k := k)
        have hmk := mrTo_ok HP.out k (by have := HLN.out; omega)
        have hp := HP.out k (by have := HLN.out; omega)
        obtain ⟨⟨x, y⟩, hxy⟩ : ∃ p, pt V k = p := ⟨_, rfl⟩
        obtain ⟨⟨u, v⟩, huv⟩ : ∃ p, mrTo V k = p := ⟨_, rfl⟩
        rw [hxy] at i0 i1 hy hno hp
        rw [huv] at hy hno hmk ⊢
        dsimp only at i0 i1 ⊢
        have hpm := hp.min.1
        have hmd : minQ (x, y) = (if x ≤ y - x then x else y - x, y) := rfl
        obtain ⟨z, hz⟩ : ∃ z, (if x ≤ y - x then x else y - x) = z := ⟨_, rfl⟩
        rw [hmd, hz] at hy hno hpm
        have hkn : (k : Int) < (N : Int) := by omega
        have hlo := hp.lo
        have hhi := hp.hi
        have hle := hp.le
        have hps := hp.pos
        dsimp only at hlo hhi hle hps
        have wm : IntKind.i64.wrap (y - x) = y - x := IntWalk.i64_in _ (by omega)
        have hwm : (if y - x < x then y - x else x) = z := by rw [← hz]; split <;> split <;> omega
        have HLS := Lib.hid (fun W => specLess z y u v W ⟨hpm.lo, Int.le_trans hpm.hi hpm.le⟩ ⟨hps, hle⟩ ⟨hmk.lo, Int.le_trans hmk.hi hmk.le⟩ ⟨hmk.pos, hmk.le⟩)
        have HY := Lib.hid hy
        have HNO := Lib.hid hno
        have HPM := Lib.hid hpm
        have HUV := Lib.hid huv
        clear hbw hqw hxy huv hy hno hmk hmd hpm hp
        have hn1 := Since.nonempty wr
        have sa0 := fun (x : Since wr) => (x.cell bb k (cell_block_lt a0)).trans a0
        have si0 := fun (x : Since wr) => (x.cell gk 0 (cell_block_lt i0)).trans i0
        have si1 := fun (x : Since wr) => (x.cell gk 1 (cell_block_lt i1)).trans i1
        go_upto_region 9 with (fail)
        refine wp_region_since (by kernel_rfl) (by kernel_rfl) ?_
        repeat (go_big_quiet_step (fail))
        refine wpQuiet_nil ?_
        rintro w2 ⟨⟨w2, hb2⟩, rfl⟩
        try simp only [hwm]
        have HB2 := Lib.hid (HB.out.trans (hb2.mono HB.out.size))
        have HA0 := Lib.hid (cell_kept a0 hb2)
        have HI1 := Lib.hid (cell_kept i1 hb2)
        clear hb2 sa0 si0 si1 hn1 hwm wm a0 i0 i1 hlo hhi hz
        have a0 := HA0.out
        have i1 := HI1.out
        go_wp2_with fail
        refine (HLS.out _).mono ?_
        rintro e w3 ⟨rfl, hb3⟩
        have HB3 := Lib.hid (HB2.out.trans (hb3.mono HB2.out.size))
        have HA3 := Lib.hid (cell_kept a0 hb3)
        have HI3 := Lib.hid (cell_kept i1 hb3)
        clear hb3 a0 i1 HA0 HI1
        have a0 := HA3.out
        have i1 := HI3.out
        cases hV : ltQ (z, y) (u, v)
        · have HN := Lib.hid (HNO.out hV)
          clear hV
          go_wp2_with fail
          go_roundw
          case rel => exact ⟨k + 1, hlt, by go_num, by rw [HN.out], by rw [HN.out], HB3.out⟩
          case measure => simp [intOf]; omega
        · have HN := Lib.hid (HY.out hV)
          have hpm := HPM.out
          have hg1 := hpm.low
          have hzlo := hpm.lo
          have hzhi := hpm.hi
          dsimp only at hg1 hzlo hzhi
          have HG := Lib.hid (fun W => specGcd z y W (by omega) (by omega))
          rw [hg1] at HG
          have wz : IntKind.i64.wrap z = z := IntWalk.i64_in _ (by omega)
          have wy : IntKind.i64.wrap y = y := IntWalk.i64_in _ (by omega)
          clear hV hpm hg1
          go_wp2_with fail
          refine (HG.out _).mono ?_
          rintro e w4 ⟨rfl, hb4⟩
          have HB4 := Lib.hid (HB3.out.trans (hb4.mono HB3.out.size))
          have HA4 := Lib.hid (cell_kept a0 hb4)
          have HI4 := Lib.hid (cell_kept i1 hb4)
          clear hb4 a0 i1 HA3 HI3
          have a0 := HA4.out
          have i1 := HI4.out
          rw [show ((1 : Nat) : Int) = 1 from rfl]
          have t1 : z.tdiv 1 = z := Int.tdiv_one z
          have t2 : y.tdiv 1 = y := Int.tdiv_one y
          go_wp2_with fail
          go_roundw
          case rel => exact ⟨k + 1, hlt, by go_num, by rw [HN.out], by rw [HN.out], HB4.out⟩
          case measure => simp [intOf]; omega
      · have hkn : k = N := by omega
        have HV := Lib.hid (show maQ V = mrTo V k by rw [HE.out.1, hkn, HLN.out])
        have HO := Lib.hid HE.out.2
        clear hbw hkn
        go_wp2_with fail
        refine bodyPost_ret (v := .tuple #[.int .i64 (mrTo V k).1, .int .i64 (mrTo V k).2, .bool true]) (by simp [results, Try.results9, go_sem]) rfl ⟨by rw [HV.out, HO.out], HB1.out.trans (HB.out.mono HB1.out.size)⟩

set_option maxHeartbeats 2000000 in
theorem specInMiddle (w : World) (B B2 g cap n : Nat) (la : Option Addr) (m lc : Nat) (js : List Jt) (ls : List Ld) (th tv tm td z : Int) (hr : JRowAt w B g cap js) (hn : js.length = n) (hs : n ≤ 1048576) (hl : Lds w B2 la m lc ls) :
    Calls Try.prog 16 #[.agg #[.slice (some ⟨g, 0, none⟩) n cap], .slice la m lc, .agg #[.int .i64 th, .int .i64 tv, .int .i64 tm, .int .i64 td], .int .i64 z] w fun e w' => e = .returned (.bool (inmV (lineV js ls th tv tm td) z)) ∧ Below w.heap.size w w' := by
  have HL := Lib.hid (fun (W : World) (hW : Below w.heap.size w W) => specMarginOf W B B2 g cap n la m lc js ls th tv tm td (hr.below hW) hn hs (hl.below hW))
  have HB0 := Lib.hid (abox_below w g n cap th tv tm td)
  have HX0 := Lib.hid (abox_alloc w g n cap th tv tm td)
  have hpl := lineV_pls js ls th tv tm td
  generalize lineV js ls th tv tm td = V at *
  have hV : inmV V z = (inR z 2 100 && (maOk V && decide ((maQ V).2 ≤ (maQ V).1 * z))) := rfl
  have hK : maOk V = true → PlQ (maQ V) := fun h => by
    by_cases h0 : V.length = 0
    · rw [(maQ_no h0).2] at h; cases h
    · rw [(maQ_yes h0).1]; exact mrTo_ok hpl _ (Nat.le_refl _)
  rw [hV]
  obtain ⟨⟨p, q⟩, hpq⟩ : ∃ p, maQ V = p := ⟨_, rfl⟩
  obtain ⟨mo, hmo⟩ : ∃ b, maOk V = b := ⟨_, rfl⟩
  rw [hpq, hmo] at HL hK
  rw [hpq, hmo]
  have HK := Lib.hid hK
  clear hr hn hl hpq hmo hV hK hpl
  obtain ⟨x0, x1, x2, x3, x4⟩ := HX0.out
  have HI := Lib.hid (fun W => l01InR z 2 100 W)
  have hiz := inR_iff (n := z) (a := 2) (b := 100)
  cases mo
  · have HV : RowKit.Hid ((inR z 2 100 && (false && decide (q ≤ p * z))) = false) := Lib.hid (by cases inR z 2 100 <;> rfl)
    clear hiz
    go_enter Try.func16, Try.ntmps16
    go_wp2_with fail
    refine (HL.out _ HB0.out).mono ?_
    rintro e w1 ⟨rfl, hb1⟩
    have HB1 := Lib.hid (HB0.out.trans (hb1.mono HB0.out.size))
    clear hb1
    go_wp2_with fail
    go_ret
    exact ⟨ret_bool HV.out.symm, HB1.out⟩
  · cases hz : inR z 2 100
    · rw [hz] at HI
      clear hiz hz
      go_enter Try.func16, Try.ntmps16
      go_wp2_with fail
      refine (HL.out _ HB0.out).mono ?_
      rintro e w1 ⟨rfl, hb1⟩
      have HB1 := Lib.hid (HB0.out.trans (hb1.mono HB0.out.size))
      clear hb1
      go_wp2_with fail
      refine (HI.out _).mono ?_
      rintro e w2 ⟨rfl, rfl⟩
      go_wp2_with fail
      go_ret
      exact ⟨rfl, HB1.out⟩
    · rw [hz] at HI
      have hzb := hiz.1 hz
      have hp := HK.out rfl
      have hpb := mulT_bd (x := p) (y := z) 6000000000000000 100 (by have := hp.lo; have := hp.hi; have := hp.le; dsimp only at *; omega) (by omega)
      obtain ⟨P, hP⟩ : ∃ P, p * z = P := ⟨_, rfl⟩
      rw [hP] at hpb
      have wP : IntKind.i64.wrap (p * z) = P := by rw [hP]; exact IntWalk.i64_in _ (by omega)
      have HPP := Lib.hid hP
      clear hiz hz hp hP
      go_enter Try.func16, Try.ntmps16
      go_wp2_with fail
      refine (HL.out _ HB0.out).mono ?_
      rintro e w1 ⟨rfl, hb1⟩
      have HB1 := Lib.hid (HB0.out.trans (hb1.mono HB0.out.size))
      clear hb1
      go_wp2_with fail
      refine (HI.out _).mono ?_
      rintro e w2 ⟨rfl, rfl⟩
      go_wp2_with fail
      go_ret
      exact ⟨ret_bool (by rw [HPP.out]; simp), HB1.out⟩

set_option maxHeartbeats 8000000 in
theorem specHighestJoint (w : World) (B B2 g cap n : Nat) (la : Option Addr) (m lc : Nat) (js : List Jt) (ls : List Ld) (th tv tm td : Int) (hr : JRowAt w B g cap js) (hn : js.length = n) (hs : n ≤ 1048576) (hl : Lds w B2 la m lc ls) :
    Calls Try.prog 18 #[.agg #[.slice (some ⟨g, 0, none⟩) n cap], .slice la m lc, .agg #[.int .i64 th, .int .i64 tv, .int .i64 tm, .int .i64 td]] w fun e w' => e = .returned (.int .i64 (hiV (lineV js ls th tv tm td))) ∧ Below w.heap.size w w' := by
  have HL := Lib.hid (fun (W : World) (hW : Below w.heap.size w W) => specPlacesOf W B B2 g cap n la m lc js ls th tv tm td (hr.below hW) hn hs (hl.below hW))
  have HP := Lib.hid (lineV_pls js ls th tv tm td)
  have hsm := lineV_small js ls th tv tm td
  generalize lineV js ls th tv tm td = V at *
  have HB0 := Lib.hid (abox_below w g n cap th tv tm td)
  have HX0 := Lib.hid (abox_alloc w g n cap th tv tm td)
  clear hr hn hl
  obtain ⟨x0, x1, x2, x3, x4⟩ := HX0.out
  go_enter Try.func18, Try.ntmps18
  go_wp2_with fail
  refine (HL.out _ HB0.out).mono ?_
  rintro e w1 ⟨lv, rfl, ⟨gs, hq⟩, hb1⟩
  obtain ⟨a, lcp, rfl, hnc, hcm⟩ := hq.slice
  have hlen := hq.len
  obtain ⟨N, hN⟩ : ∃ N, N = gs.length := ⟨_, rfl⟩
  rw [← hN] at hq hnc hlen ⊢
  have HB1 := Lib.hid (HB0.out.trans (hb1.mono HB0.out.size))
  have HQ := Lib.hid hq
  have HGN := Lib.hid hN
  unfold maxLen at hcm
  have hN8 : N ≤ 8 := by omega
  have HLN := Lib.hid hlen
  clear hb1 hq HB0 HX0 x0 x1 x2 x3 x4 HL hlen hN
  go_wp2_with fail
  go_loopw [8, 9] (fun s t wr => ∃ (k : Nat), k ≤ N ∧ t = .int .i64 k ∧ s = .int .i64 (hiTo V k) ∧ Below w1.heap.size w1 wr)
    (fun _ t _ => N - (intOf t).toNat)
  case atStart => exact ⟨0, Nat.zero_le _, rfl, rfl, Below.refl _ _⟩
  case round =>
    obtain ⟨k, hk, rfl, rfl, hbw⟩ := hrel
    have HB := Lib.hid hbw
    by_cases hlt : k < N
    · have hkg : k < gs.length := by have := HGN.out; omega
      have hqw := HQ.out.below hbw
      obtain ⟨bb, rfl, a0⟩ := hqw.at k hkg
      obtain ⟨i0, i1⟩ := two_cells (hqw.two k hkg)
      have hbd := hiTo_bd V k
      have hp := HP.out k (by have := HLN.out; omega)
      have hy := hiTo_yes (l := V) (k := k)
      have hno := hiTo_no (l := V) (k := k)
      have hkn : (k : Int) < (N : Int) := by omega
      by_cases h0 : hiTo V k < 0
      · have HNX := Lib.hid (hy (.inl h0))
        generalize hiTo V k = h at *
        generalize gs.getD k 0 = gk at *
        clear hbw hy hno hp hqw hbd
        go_upto_region 6 with (fail)
        have hn1 := Since.nonempty wr
        refine wp_region_since (by kernel_rfl) (by kernel_rfl) ?_
        repeat (go_big_quiet_step (fail))
        refine wpQuiet_nil ?_
        rintro w2 ⟨⟨w2, hb2⟩, rfl⟩
        have HB3 := Lib.hid (HB.out.trans (hb2.mono HB.out.size))
        clear hb2
        go_wp2_with fail
        go_roundw
        case rel => exact ⟨k + 1, hlt, by go_num, by rw [HNX.out], HB3.out⟩
        case measure => simp [intOf]; omega
      · obtain ⟨j, hj⟩ : ∃ j : Nat, hiTo V k = j := ⟨(hiTo V k).toNat, by omega⟩
        have hjk : j < k := by omega
        have hjg : j < gs.length := by omega
        obtain ⟨b2, hg2, c0⟩ := hqw.at j hjg
        obtain rfl : bb = b2 := by simpa using hg2
        obtain ⟨j0, j1⟩ := two_cells (hqw.two j hjg)
        have hpj := HP.out j (by have := HLN.out; omega)
        rw [hj] at hy hno h0 ⊢
        have hjn : ¬ ((j : Int) < 0) := by omega
        rw [show ((j : Int)).toNat = j by omega] at hy hno
        have hjN : (j : Int) < (N : Int) := by omega
        have hj0 : (0 : Int) ≤ (j : Int) := by omega
        obtain ⟨⟨x, y⟩, hxy⟩ : ∃ p, pt V k = p := ⟨_, rfl⟩
        obtain ⟨⟨u, v⟩, huv⟩ : ∃ p, pt V j = p := ⟨_, rfl⟩
        rw [hxy] at i0 i1 hy hno hp
        rw [huv] at j0 j1 hy hno hpj
        dsimp only at i0 i1 j0 j1
        generalize gs.getD k 0 = gk at *
        generalize gs.getD j 0 = gj at *
        have HLS := Lib.hid (fun W => specLess u v x y W ⟨hpj.lo, Int.le_trans hpj.hi hpj.le⟩ ⟨hpj.pos, hpj.le⟩ ⟨hp.lo, Int.le_trans hp.hi hp.le⟩ ⟨hp.pos, hp.le⟩)
        have HY := Lib.hid hy
        have HNO := Lib.hid hno
        have HJ := Lib.hid hj
        clear hbw hxy huv hy hno hp hpj hqw hbd hg2 hj h0
        go_upto_region 6 with (fail)
        have hn1 := Since.nonempty wr
        have sa0 := fun (x : Since wr) => (x.cell bb k (cell_block_lt a0)).trans a0
        have sc0 := fun (x : Since wr) => (x.cell bb j (cell_block_lt c0)).trans c0
        have si0 := fun (x : Since wr) => (x.cell gk 0 (cell_block_lt i0)).trans i0
        have si1 := fun (x : Since wr) => (x.cell gk 1 (cell_block_lt i1)).trans i1
        have sj0 := fun (x : Since wr) => (x.cell gj 0 (cell_block_lt j0)).trans j0
        have sj1 := fun (x : Since wr) => (x.cell gj 1 (cell_block_lt j1)).trans j1
        cases hV : ltQ (u, v) (x, y)
        · have HN := Lib.hid (HNO.out hjn hV)
          rw [hV] at HLS
          clear hV a0 c0 i0 i1 j0 j1
          refine wp_region_since (by kernel_rfl) (by kernel_rfl) ?_
          repeat (go_big_quiet_step (first
            | (go_at_call 29; exact Since.call (HLS.out _))))
          refine wpQuiet_nil ?_
          rintro w2 ⟨⟨w2, hb2⟩, rfl⟩
          have HB3 := Lib.hid (HB.out.trans (hb2.mono HB.out.size))
          clear hb2 sa0 sc0 si0 si1 sj0 sj1 hn1
          go_wp2_with fail
          go_roundw
          case rel => exact ⟨k + 1, hlt, by go_num, by rw [HN.out], HB3.out⟩
          case measure => simp [intOf]; omega
        · have HN := Lib.hid (HY.out (.inr hV))
          rw [hV] at HLS
          clear hV a0 c0 i0 i1 j0 j1
          refine wp_region_since (by kernel_rfl) (by kernel_rfl) ?_
          repeat (go_big_quiet_step (first
            | (go_at_call 29; exact Since.call (HLS.out _))))
          refine wpQuiet_nil ?_
          rintro w2 ⟨⟨w2, hb2⟩, rfl⟩
          have HB3 := Lib.hid (HB.out.trans (hb2.mono HB.out.size))
          clear hb2 sa0 sc0 si0 si1 sj0 sj1 hn1
          go_wp2_with fail
          go_roundw
          case rel => exact ⟨k + 1, hlt, by go_num, by rw [HN.out], HB3.out⟩
          case measure => simp [intOf]; omega
    · have hkn : k = N := by omega
      have HE := Lib.hid (show hiV V = hiTo V k by unfold hiV; rw [hkn, HLN.out])
      clear hbw hkn
      go_wp2_with fail
      go_ret
      exact ⟨ret_i64 HE.out.symm, HB1.out.trans (HB.out.mono HB1.out.size)⟩

theorem owns_mid {w X : World} {B n size : Nat} {e : TypeId} {v : Value} {xs : List Value} (h : w.ownsRow B e size v n xs) (hm : ∀ b, B ≤ b → b < w.heap.size → X.heap[b]? = w.heap[b]?) : X.ownsRow B e size v n xs := by
  refine ⟨h.1, h.2.imp id ?_⟩
  rintro ⟨g, cap, cur, rfl, h1, hg, h3⟩
  exact ⟨g, cap, cur, rfl, h1, (hm g h1 (Array.getElem?_eq_some_iff.1 hg).1).trans hg, h3⟩
theorem QQ.mid {w X : World} {B : Nat} {v : Value} {gs : List Nat} {l : List (Int × Int)} (h : QQ w B v gs l) (hm : ∀ b, B ≤ b → b < w.heap.size → X.heap[b]? = w.heap[b]?) : QQ X B v gs l :=
  ⟨h.len, owns_mid h.row hm, fun i hi => owns_mid (h.two i hi) hm, h.up⟩
set_option maxHeartbeats 8000000 in
theorem specTouchedJoints (w : World) (B B2 g cap n : Nat) (la : Option Addr) (m lc : Nat) (js : List Jt) (ls : List Ld) (th tv tm td : Int) (hr : JRowAt w B g cap js) (hn : js.length = n) (hs : n ≤ 1048576) (hl : Lds w B2 la m lc ls) :
    Calls Try.prog 20 #[.agg #[.slice (some ⟨g, 0, none⟩) n cap], .slice la m lc, .agg #[.int .i64 th, .int .i64 tv, .int .i64 tm, .int .i64 td]] w fun e w' => ∃ x, e = .returned x ∧ InRow w' w.heap.size x (tjV (lineV js ls th tv tm td)) ∧ Below w.heap.size w w' := by
  obtain ⟨i0, hi0, hz0, hz1, hz2⟩ := info_parts Try.infoI
  have HL := Lib.hid (fun (W : World) (hW : Below w.heap.size w W) => specPlacesOf W B B2 g cap n la m lc js ls th tv tm td (hr.below hW) hn hs (hl.below hW))
  have hsm := lineV_small js ls th tv tm td
  generalize lineV js ls th tv tm td = V at *
  have HB0 := Lib.hid ((abox_below w g n cap th tv tm td).alloc (by simp <;> omega) (.cells #[] 3))
  have HX0 := Lib.hid ((abox_alloc w g n cap th tv tm td).below (cd_al _ (.cells #[] 3)))
  have HI0 := Lib.hid (in_empty ((w.alloc (.cells #[.slice (some ⟨g, 0, none⟩) n cap] 34)).alloc (.cells #[.int .i64 th, .int .i64 tv, .int .i64 tm, .int .i64 td] 38)) w.heap.size (by simp <;> omega))
  simp only [World.size_alloc] at HI0
  clear hr hn hl
  obtain ⟨x0, x1, x2, x3, x4⟩ := HX0.out
  go_enter Try.func20, Try.ntmps20
  go_wp2_with fail
  refine (HL.out _ HB0.out).mono ?_
  rintro e w1 ⟨lv, rfl, ⟨gs, hq⟩, hb1⟩
  obtain ⟨a, lcp, rfl, hnc, hcm⟩ := hq.slice
  have hlen := hq.len
  obtain ⟨N, hN⟩ : ∃ N, N = gs.length := ⟨_, rfl⟩
  rw [← hN] at hq hnc hlen ⊢
  have HB1 := Lib.hid (HB0.out.trans (hb1.mono HB0.out.size))
  have HI1 := Lib.hid (HI0.out.below hb1)
  have hq := hq.base (B' := w.heap.size + 3) (by simp)
  have HQ := Lib.hid hq
  have HGN := Lib.hid hN
  unfold maxLen at hcm
  have hN8 : N ≤ 8 := by omega
  have HLN := Lib.hid hlen
  have hblk : w.heap.size + 3 ≤ w1.heap.size := by have := hb1.size; simp at this; omega
  clear hb1 hq HB0 HX0 HI0 x0 x1 x2 x3 x4 HL hlen hN
  go_wp2_with fail
  go_loopw [7, 9] (fun s t wr => ∃ (k : Nat) (sa : Option Addr) (c cc : Nat), k ≤ N ∧ t = .int .i64 k ∧ s = .slice sa c cc ∧ c ≤ k ∧ Ins wr w.heap.size sa c cc (tjTo V k) ∧ (∀ j, (Value.slice sa c cc).ownBlock = some j → j = w.heap.size + 2 ∨ w1.heap.size ≤ j) ∧
      (∀ b, w.heap.size + 3 ≤ b → b < w1.heap.size → wr.heap[b]? = w1.heap[b]?) ∧ w1.heap.size ≤ wr.heap.size ∧ Below w.heap.size w wr)
    (fun _ t _ => N - (intOf t).toNat)
  case atStart => exact ⟨0, some ⟨w.heap.size + 2, 0, none⟩, 0, 0, Nat.zero_le _, rfl, rfl, Nat.le_refl _, HI1.out, fun j hj => .inl (by simpa [Value.ownBlock] using hj.symm), fun _ _ _ => rfl, Nat.le_refl _, HB1.out⟩
  case round =>
    clear HI1
    obtain ⟨k, sa, c, cc, hk, rfl, rfl, hck, hin, hob, hmid, hsz, hbw⟩ := hrel
    have HB := Lib.hid hbw
    have HI := Lib.hid hin
    have HOB := Lib.hid hob
    have HMI := Lib.hid hmid
    obtain ⟨hcc, hcm2⟩ := hin.cap
    unfold maxLen at hcm2
    have hwr : w.heap.size ≤ wr.heap.size := hbw.size
    by_cases hlt : k < N
    · have hkg : k < gs.length := by have := HGN.out; omega
      have hqw := HQ.out.mid hmid
      obtain ⟨bb, rfl, a0⟩ := hqw.at k hkg
      obtain ⟨i0', i1⟩ := two_cells (hqw.two k hkg)
      have hy := tjTo_yes (l := V) (k := k)
      have hno := tjTo_no (l := V) (k := k)
      obtain ⟨⟨x, y⟩, hxy⟩ : ∃ p, pt V k = p := ⟨_, rfl⟩
      rw [hxy] at i0' i1 hy hno
      dsimp only at i0' i1
      generalize gs.getD k 0 = gk at *
      have hkn : (k : Int) < (N : Int) := by omega
      have HY := Lib.hid hy
      have HNO := Lib.hid hno
      have HE := Lib.hid (endQ_iff (q := (x, y)))
      clear hin hob hmid hbw hxy hy hno hqw
      have hn1 := Since.nonempty wr
      have sa0 := fun (x : Since wr) => (x.cell bb k (cell_block_lt a0)).trans a0
      have si0 := fun (x : Since wr) => (x.cell gk 0 (cell_block_lt i0')).trans i0'
      have si1 := fun (x : Since wr) => (x.cell gk 1 (cell_block_lt i1)).trans i1
      go_upto_region 6 with (fail)
      cases hen : endQ (x, y)
      · have HNX := Lib.hid (HNO.out hen)
        have hne : ¬ (x = 0 ∨ x = y) := fun h => by have := HE.out.2 h; rw [hen] at this; cases this
        have h1 : (x == 0) = false := by simp; omega
        have h2 : (x == y) = false := by simp; omega
        clear hen hne a0 i0' i1
        refine wp_region_since (by kernel_rfl) (by kernel_rfl) ?_
        repeat (go_big_quiet_step (fail))
        refine wpQuiet_nil ?_
        rintro w2 ⟨⟨w2, hb2⟩, rfl⟩
        have HB2 := Lib.hid (HB.out.trans (hb2.mono HB.out.size))
        have HI2 := Lib.hid (HI.out.below hb2)
        have HM2 : RowKit.Hid (∀ b, w.heap.size + 3 ≤ b → b < w1.heap.size → w2.heap[b]? = w1.heap[b]?) := Lib.hid (fun b h1 h2 => (hb2.block b (by omega)).trans (HMI.out b h1 h2))
        have HS2 := Lib.hid (Nat.le_trans hsz hb2.size)
        clear hb2 sa0 si0 si1 hn1
        go_wp2_with fail
        go_roundw
        case rel => exact ⟨k + 1, sa, c, cc, hlt, by go_num, rfl, by omega, by rw [HNX.out]; exact HI2.out, HOB.out, HM2.out, HS2.out, HB2.out⟩
        case measure => simp [intOf]; omega
      · have HNX := Lib.hid (HY.out hen)
        have hor := HE.out.1 hen
        have h12 : (x == 0) = true ∨ ((x == 0) = false ∧ (x == y) = true) := by
          by_cases h : x = 0
          · exact .inl (by simp [h])
          · exact .inr ⟨by simp [h], by simp; omega⟩
        clear hen hor a0 i0' i1
        rcases h12 with h1 | ⟨h1, h2⟩
        all_goals
          refine wp_region_since (by kernel_rfl) (by kernel_rfl) ?_
          repeat (go_big_quiet_step (fail))
          refine wpQuiet_nil ?_
          rintro Z ⟨⟨Z, hb2⟩, rfl⟩
          have HB2 := Lib.hid (HB.out.trans (hb2.mono HB.out.size))
          have HI2 := Lib.hid (HI.out.below hb2)
          have HM2 : RowKit.Hid (∀ b, w.heap.size + 3 ≤ b → b < w1.heap.size → Z.heap[b]? = w1.heap[b]?) := Lib.hid (fun b h1 h2 => (hb2.block b (by omega)).trans (HMI.out b h1 h2))
          have hZs := Nat.le_trans hsz hb2.size
          have hZw : w.heap.size ≤ Z.heap.size := HB2.out.size
          clear hb2 sa0 si0 si1 hn1
          have HO := Lib.hid (show Z.ownsRow w.heap.size 3 1 (.slice sa c cc) c (ints (tjTo V k)) from by have := HI2.out.1; unfold InRow at this; rwa [HI2.out.2] at this)
          have HLN2 := Lib.hid HI2.out.2
          go_wp2_with (at_builtin; refine wpList_append_lies _ rfl _ _ _ rfl w.heap.size 3 i0 _ 1 8 Try.underlying46 hi0 hz0 hz1 hz2 rfl (by omega) (.slice sa c cc) c (ints (tjTo V k)) (by rfl) (World.ownsRow.alloc HO.out _) ⟨Z.heap.size, 0, none⟩ 1 1 [.int .i64 (k : Int)] (by rfl) (by rfl) (World.news_of_block (cs := #[.int .i64 (k : Int)]) (t := 3) (fr := (0, 0)) (heap_alloc_new Z _)) (by simp [Value.oneCell']) (by omega) (by unfold maxLen; omega) (by omega) (by first | omega | (simp; omega)) (Z.heap.size + 1) (by simp) ?_; intro g5 cp5 w6 hown6 hgrow6 hat6 hgl6; have HO6 := Lib.hid hown6; have HG6 := Lib.hid hgrow6; have HA6 := Lib.hid hat6; clear hown6 hgrow6 hat6 hgl6)
          have hoy := World.ownsRow.alloc HO.out (.cells #[.int .i64 (k : Int)] 3)
          have HB6 : RowKit.Hid (Below w.heap.size w w6) := Lib.hid (below_grownQ (HB2.out.alloc HB2.out.size _) HG6.out (by simp; omega) (fun j hj => by have := (World.ownsRow.lt hoy j hj).1; omega))
          have HI6 : RowKit.Hid (Ins w6 w.heap.size (some ⟨g5, 0, none⟩) (c + 1) cp5 (tjTo V (k + 1))) := Lib.hid (by
            rw [HNX.out]
            refine ⟨?_, by rw [List.length_append, HLN2.out]; rfl⟩
            unfold InRow
            rw [ints_append, List.length_append, HLN2.out]
            exact HO6.out)
          have HM6 : RowKit.Hid (∀ b, w.heap.size + 3 ≤ b → b < w1.heap.size → w6.heap[b]? = w1.heap[b]?) := Lib.hid (fun b h1 h2 => by
            have e1 := HG6.out.block b (by simp; omega) (fun he => by rcases HOB.out _ he.symm with h | h <;> omega)
            rw [e1, ← HM2.out b h1 h2]
            exact (cd_al Z _).block b (by omega))
          have HOB6 : RowKit.Hid (∀ j, (Value.slice (some ⟨g5, 0, none⟩) (c + 1) cp5).ownBlock = some j → j = w.heap.size + 2 ∨ w1.heap.size ≤ j) := Lib.hid (fun j hj => by
            have e : g5 = j := by simpa [Value.ownBlock] using hj
            rcases HA6.out with h | h
            · rw [← e]; exact HOB.out g5 h
            · right; omega)
          have HS6 := Lib.hid (show w1.heap.size ≤ w6.heap.size by have := HG6.out.size; simp at this; omega)
          clear hoy
          go_roundw
        all_goals first
          | exact ⟨k + 1, _, _, _, hlt, by go_num, rfl, by omega, HI6.out, HOB6.out, HM6.out, HS6.out, HB6.out⟩
          | (simp [intOf]; omega)
    · have hkn : k = N := by omega
      have HE := Lib.hid (show tjV V = tjTo V k by unfold tjV; rw [hkn, HLN.out])
      clear hbw hin hob hmid hkn
      go_wp2_with fail
      go_ret
      exact ⟨_, rfl, by rw [HE.out]; exact (HI.out.2 ▸ HI.out.1), HB.out⟩
end Go.Proofs.Ytbmlcfdilopmgab
