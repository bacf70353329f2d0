/- Lines of thrust: the contracts of the model's PlacesOf, MarginOf, InMiddle, HighestJoint, TouchedJoints. -/
import Derived.Test.YtbmlcfdilopmgaaGLine
import Derived.Test.YtbmlcfdilopmgaaPushS
namespace Go.Proofs.Ytbmlcfdilopmgaa
set_option maxRecDepth 100000
set_option linter.unusedVariables false
set_option linter.unusedSimpArgs false
open Go.ChangeShapes Go.WideShapes Go.ChangeAt Go.RowKit

theorem Try.infoISs : (Try.prog.info? 38).map (fun i => (i.zero, i.size, i.bytes)) = some (some (.slice none 0 0), 1, 24) := by kernel_rfl
set_option maxHeartbeats 8000000 in
theorem specPlacesOf (w : World) (B B2 g cap n : Nat) (la : Option Addr) (m lc : Nat) (js : List Jt) (ls : List Ld) (th tv tm td : Int) (hr : JRowAt w B g cap js) (hn : js.length = n) (hs : n ≤ 1048576) (hl : Lds w B2 la m lc ls) :
    Calls Try.prog 17 #[.agg #[.slice (some ⟨g, 0, none⟩) n cap], .slice la m lc, .agg #[.int .i64 th, .int .i64 tv, .int .i64 tm, .int .i64 td]] w fun e w' => ∃ x, e = .returned x ∧ QR w' w.heap.size x (lineV js ls th tv tm td) ∧ Below w.heap.size w w' := by
  obtain ⟨i0, hi0, hz0, hz1, hz2⟩ := info_parts Try.infoISs
  obtain ⟨-, hgw, hc, hcm⟩ := hr.lt
  rw [hn] at hc
  unfold maxLen at hcm
  have HP := Lib.hid (fun (W : World) (hW : Below w.heap.size w W) (k : Nat) => (show Calls Try.prog 39 #[.agg #[.slice (some ⟨g, 0, none⟩) n cap], .slice la m lc, .agg #[.int .i64 th, .int .i64 tv, .int .i64 tm, .int .i64 td], .int .i64 k] W fun e w' => e = .returned (.tuple #[.int .i64 (plX js ls th tv tm td k).1, .int .i64 (plX js ls th tv tm td k).2, .bool (plAt js ls th tv tm td k)]) ∧ Below W.heap.size W w' from
    specPlaceAt W B B2 g cap n la m lc js ls th tv tm td k (hr.below hW) hn hs (hl.below hW)))
  have H8 := Lib.hid (fun (k : Nat) (hk : k < n) (ha : plAt js ls th tv tm td k = true) => (show n ≤ 8 by
    cases ho : phOk js ls th tv tm td (k : Nat)
    · unfold plAt at ha
      rw [phA_no ho, phB_no ho] at ha
      exact absurd ha (by decide)
    · have h38 := arch_size (loadsV_iff.1 (phOk_iff.1 ho).1).1
      omega))
  have HY := Lib.hid (fun (h : allV n (plAt js ls th tv tm td) = true) => lineV_yes (js := js) (ls := ls) (h := th) (v := tv) (m := tm) (d := td) (by rw [hn]; exact h))
  have HN := Lib.hid (fun (h : allV n (plAt js ls th tv tm td) = false) => lineV_no (js := js) (ls := ls) (h := th) (v := tv) (m := tm) (d := td) (by rw [hn]; exact h))
  rw [hn] at HY
  have HZ := Lib.hid (allFrom_zero n (plAt js ls th tv tm td))
  generalize lineV js ls th tv tm td = V at *
  generalize plAt js ls th tv tm td = f at *
  generalize plX js ls th tv tm td = q at *
  have HB0 := Lib.hid ((abox_below w g n cap th tv tm td).alloc (by simp <;> omega) (.cells #[] 38))
  have HX0 := Lib.hid ((abox_alloc w g n cap th tv tm td).below (cd_al _ (.cells #[] 38)))
  have HQ0 := Lib.hid (qq_empty ((w.alloc (.cells #[.slice (some ⟨g, 0, none⟩) n cap] 26)).alloc (.cells #[.int .i64 th, .int .i64 tv, .int .i64 tm, .int .i64 td] 31)) (w.heap.size + 2) (by simp))
  simp only [World.size_alloc] at HQ0
  clear hr hn hl hgw
  obtain ⟨x0, x1, x2, x3, x4⟩ := HX0.out
  go_enter Try.func17, Try.ntmps17
  go_wp2_with fail
  go_loopw [7, 8, 9, 10, 11] (fun s t _ _ _ wr => ∃ (k : Nat) (a : Option Addr) (cp : Nat) (gs : List Nat), k ≤ n ∧ t = .int .i64 k ∧ s = .slice a k cp ∧ gs.length = k ∧ QQ wr (w.heap.size + 2) (.slice a k cp) gs (lnTo q k) ∧ allFrom n k f = allFrom n 0 f ∧ (k = 0 ∨ n ≤ 8) ∧ Below w.heap.size w wr ∧ ABox wr w.heap.size (.slice (some ⟨g, 0, none⟩) n cap) th tv tm td)
    (fun _ t _ _ _ _ => n - (intOf t).toNat)
  case atStart => exact ⟨0, some ⟨w.heap.size + 2, 0, none⟩, 0, [], Nat.zero_le _, rfl, rfl, rfl, HQ0.out, rfl, .inl rfl, HB0.out, HX0.out⟩
  case round =>
    clear HB0 HX0 HQ0 x0 x1 x2 x3 x4
    obtain ⟨k, a, cp, gs, hk, rfl, rfl, hgl, hq, hall, h8, hbw, hbx⟩ := hrel
    have HB := Lib.hid hbw
    have HX := Lib.hid hbx
    have HQ := Lib.hid hq
    have HA := Lib.hid hall
    have HGL := Lib.hid hgl
    have hw2 := hbx.lt
    obtain ⟨x0, x1, x2, x3, x4⟩ := hbx
    clear hall hbw hq h8 hgl
    by_cases hlt : k < n
    · have hkn : (k : Int) < (n : Int) := by omega
      have HPK := Lib.hid (HP.out _ HB.out k)
      cases hf : f k
      · have HV := Lib.hid (show V = [] from HN.out (by rw [← HZ.out, ← HA.out, allFrom_no hlt hf]))
        rw [hf] at HPK
        clear hf
        generalize q k = Q at *
        go_wp2_with fail
        refine HPK.out.mono ?_
        rintro e w1 ⟨rfl, hb1⟩
        have HB1 := Lib.hid (HB.out.trans (hb1.mono HB.out.size))
        clear hb1
        go_wp2_with fail
        go_ret
        exact ⟨_, rfl, by rw [HV.out]; exact ⟨[], qq_empty w1 w.heap.size HB1.out.size⟩, cal HB1.out _⟩
      · have h8 := H8.out k hlt hf
        have HF := Lib.hid hf
        have HNX := Lib.hid (lnTo_next q k)
        rw [hf] at HPK
        clear hf
        obtain ⟨⟨x, y⟩, hqk⟩ : ∃ p, q k = p := ⟨_, rfl⟩
        rw [hqk] at HPK HNX
        clear hqk
        go_wp2_with fail
        refine HPK.out.mono ?_
        rintro e Z ⟨rfl, hb1⟩
        have HB2 := Lib.hid (HB.out.trans (hb1.mono HB.out.size))
        have HX1 := Lib.hid (HX.out.below hb1)
        have HQ2 := Lib.hid (HQ.out.below hb1)
        have hZ2 := HX1.out.lt
        clear hb1 x0 x1 x2 x3 x4
        have HO2 := Lib.hid (show (Z.alloc (.cells #[.int .i64 x, .int .i64 y] 3)).ownsRow (w.heap.size + 2) 38 1 (.slice a k cp) k (twos gs) from by have := World.ownsRow.alloc HQ2.out.row (.cells #[.int .i64 x, .int .i64 y] 3); rwa [HGL.out] at this)
        have HU : RowKit.Hid (InRow (Z.alloc (.cells #[.int .i64 x, .int .i64 y] 3)) (w.heap.size + 2) (.slice (some ⟨Z.heap.size, 0, none⟩) 2 2) (twoI (x, y))) := Lib.hid (World.ownsRow_lit (base := w.heap.size + 2) (e := 3) (size := 1) Z #[.int .i64 x, .int .i64 y] 2 hZ2 (by unfold maxLen; omega) rfl)
        obtain ⟨hcc, hcm2⟩ := own_cap HO2.out
        unfold maxLen at hcm2
        go_wp2_with (at_builtin; refine wpList_append_lies _ rfl _ _ _ rfl (w.heap.size + 2) 38 i0 _ 1 24 Try.underlying34 hi0 hz0 hz1 hz2 rfl (by omega) (.slice a k cp) k (twos gs) (by rfl) (World.ownsRow.alloc HO2.out _) ⟨Z.heap.size + 1, 0, none⟩ 1 1 [.slice (some ⟨Z.heap.size, 0, none⟩) 2 2] (by first | rfl | simp) (by rfl) (World.news_of_block (cs := #[.slice (some ⟨Z.heap.size, 0, none⟩) 2 2]) (t := 38) (fr := (0, 0)) (by have := heap_alloc_new (Z.alloc (.cells #[.int .i64 x, .int .i64 y] 3)) (.cells #[.slice (some ⟨Z.heap.size, 0, none⟩) 2 2] 38); simpa using this)) (by simp [Value.oneCell']) (by omega) (by unfold maxLen; omega) (by omega) (by first | omega | (simp; omega)) (Z.heap.size + 2) (by simp) ?_; intro g5 cp5 w6 hown6 hgrow6 hat6 hgl6; have HO6 := Lib.hid hown6; have HG6 := Lib.hid hgrow6; clear hown6 hgrow6 hat6 hgl6)
        have hb6 : Below w.heap.size w ((Z.alloc (.cells #[.int .i64 x, .int .i64 y] 3)).alloc (.cells #[.slice (some ⟨Z.heap.size, 0, none⟩) 2 2] 38)) := (HB2.out.alloc HB2.out.size _).alloc (by simp; omega) _
        have hoy := World.ownsRow.alloc HO2.out (.cells #[.slice (some ⟨Z.heap.size, 0, none⟩) 2 2] 38)
        have HB6 : RowKit.Hid (Below w.heap.size w w6) := Lib.hid (hb6.grown HG6.out (by simp; omega) (fun j hj => by have := (World.ownsRow.lt hoy j hj).1; omega))
        have HX6 : RowKit.Hid (ABox w6 w.heap.size (.slice (some ⟨g, 0, none⟩) n cap) th tv tm td) := Lib.hid (((HX1.out.below (cd_al _ _)).below (cd_al _ _)).far hoy HG6.out)
        have HQ6 : RowKit.Hid (QQ w6 (w.heap.size + 2) (.slice (some ⟨g5, 0, none⟩) (k + 1) cp5) (gs ++ [Z.heap.size]) (lnTo q (k + 1))) := Lib.hid (by
          rw [HNX.out]
          have q0 : QQ ((Z.alloc (.cells #[.int .i64 x, .int .i64 y] 3)).alloc (.cells #[.slice (some ⟨Z.heap.size, 0, none⟩) 2 2] 38)) (w.heap.size + 2) (.slice a k cp) gs (lnTo q k) := (HQ2.out.below (cd_al Z _)).below (cd_al _ _)
          refine q0.push (HU.out.below (cd_al _ _)) (fun i hi => ?_) HG6.out ?_
          · exact (two_ge (HQ2.out.two i hi)).2
          · rw [HGL.out]; exact HO6.out)
        have HA6 := Lib.hid ((allFrom_yes hlt HF.out).trans HA.out)
        clear hb6 hoy
        go_wp2_with fail
        go_roundw
        case rel => exact ⟨k + 1, _, _, _, hlt, by go_num, rfl, by rw [List.length_append, HGL.out]; rfl, HQ6.out, HA6.out, .inr h8, HB6.out, HX6.out⟩
        case measure => simp [intOf]; omega
    · have hkn : k = n := by omega
      have HV := Lib.hid (show V = lnTo q k by rw [hkn]; exact HY.out (by rw [← HZ.out, ← HA.out, hkn, allFrom_end]))
      clear hkn
      go_wp2_with fail
      go_ret
      exact ⟨_, rfl, by rw [HV.out]; exact ⟨gs, HQ.out.base (by omega)⟩, HB.out⟩

end Go.Proofs.Ytbmlcfdilopmgaa
