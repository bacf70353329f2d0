/- Arches: the contract of the model's MirrorArch. -/
import Derived.Test.YtggkodhfhhjihaaArchO
import Derived.Test.YtggkodhfhhjihaaArchM
namespace Go.Proofs.Ytggkodhfhhjihaa
set_option maxRecDepth 100000
open Go.ChangeShapes Go.WideShapes Go.ChangeAt Go.RowKit

theorem three_below (w : World) (cs ds es : Array Value) (t u v : TypeId) : Below w.heap.size w (((w.alloc (.cells cs t)).alloc (.cells ds u)).alloc (.cells es v)) := (((Below.refl w.heap.size w).alloc (Nat.le_refl _) _).alloc (by simp) _).alloc (by simp <;> omega) _

set_option maxHeartbeats 4000000 in
theorem specMirrorArch (w : World) (B g cap n : Nat) (js : List Jt) (x : Int) (hr : JRowAt w B g cap js) (hn : js.length = n) (h8 : n ≤ 1048576) :
    Calls Try.prog 26 #[.agg #[.slice (some ⟨g, 0, none⟩) n cap], .int .i64 x] w (MaAns js x w) := by
  obtain ⟨i0, hi0, hz0, hz1, hz2⟩ := info_parts Try.infoJo
  have hb0 := three_below w #[.slice (some ⟨g, 0, none⟩) n cap] #[.slice none 0 0] #[.slice none 0 0] 29 29 29
  have hlt := hr.lt
  have HR0 := Lib.hid hr
  have HR := Lib.hid (hr.below hb0)
  have HB0 := Lib.hid hb0
  have HN := Lib.hid hn
  obtain ⟨-, hgw, hcap, hcm⟩ := hlt
  rw [hn] at hcap
  unfold maxLen at hcm
  have hc0 : (((w.alloc (.cells #[.slice (some ⟨g, 0, none⟩) n cap] 29)).alloc (.cells #[.slice none 0 0] 29)).alloc (.cells #[.slice none 0 0] 29)).cell? ⟨w.heap.size, 0, none⟩ = some (.slice (some ⟨g, 0, none⟩) n cap) := by go_simp
  have hc1 : (((w.alloc (.cells #[.slice (some ⟨g, 0, none⟩) n cap] 29)).alloc (.cells #[.slice none 0 0] 29)).alloc (.cells #[.slice none 0 0] 29)).cell? ⟨w.heap.size + 1, 0, none⟩ = some (.slice none 0 0) := by go_simp
  have hf1 : (((w.alloc (.cells #[.slice (some ⟨g, 0, none⟩) n cap] 29)).alloc (.cells #[.slice none 0 0] 29)).alloc (.cells #[.slice none 0 0] 29)).frozen? ⟨w.heap.size + 1, 0, none⟩ = false := by go_simp
  have hc2 : (((w.alloc (.cells #[.slice (some ⟨g, 0, none⟩) n cap] 29)).alloc (.cells #[.slice none 0 0] 29)).alloc (.cells #[.slice none 0 0] 29)).cell? ⟨w.heap.size + 1 + 1, 0, none⟩ = some (.slice none 0 0) := by go_simp
  have hf2 : (((w.alloc (.cells #[.slice (some ⟨g, 0, none⟩) n cap] 29)).alloc (.cells #[.slice none 0 0] 29)).alloc (.cells #[.slice none 0 0] 29)).frozen? ⟨w.heap.size + 1 + 1, 0, none⟩ = false := by go_simp
  have C0 := Lib.hid hc0
  have C1 := Lib.hid hc1
  have F1 := Lib.hid hf1
  have C2 := Lib.hid hc2
  have F2 := Lib.hid hf2
  clear hr hn hb0 hc0 hc1 hf1 hc2 hf2
  go_enter Try.func26, Try.ntmps26
  go_wp2_with fail
  go_loopw [7] (fun t w3 => ∃ (m : Nat) (u : Value), m ≤ n ∧ t = .int .i64 ((m : Int) - 1) ∧ JRow w3 (w.heap.size + 3) u (mirJTo js x m) ∧ Below w.heap.size w w3 ∧
    w3.cell? ⟨w.heap.size, 0, none⟩ = some (.slice (some ⟨g, 0, none⟩) n cap) ∧ w3.cell? ⟨w.heap.size + 1, 0, none⟩ = some (.slice none 0 0) ∧ w3.frozen? ⟨w.heap.size + 1, 0, none⟩ = false ∧ w3.cell? ⟨w.heap.size + 1 + 1, 0, none⟩ = some u ∧ w3.frozen? ⟨w.heap.size + 1 + 1, 0, none⟩ = false)
    (fun t _ => (intOf t + 1).toNat)
  case atStart => exact ⟨n, .slice none 0 0, Nat.le_refl _, rfl, by rw [← HN.out, mirJTo_end]; exact JRow.nil _ _, HB0.out, C0.out, C1.out, F1.out, C2.out, F2.out⟩
  case round =>
    obtain ⟨m, u, hm', rfl, hrow, hbw, c0, c1, f1, c2, f2⟩ := hrel
    obtain ⟨ua, uc, rfl, huc, -⟩ := jrow_slice hrow
    have hull := mirJTo_length js x m
    have HRW := Lib.hid hrow
    have HB := Lib.hid hbw
    have hlN := HN.out
    by_cases hm0 : m = 0
    · subst hm0
      have hrw := HR0.out.below hbw
      have HRA := Lib.hid hrw
      have C1' := Lib.hid c1
      have F1' := Lib.hid f1
      rw [mirJTo_all] at hrow c2
      have hml := mirJs_length js x
      have HRL := Lib.hid hrow
      clear hbw hlN hrow HRW c1 f1 hrw hull huc
      generalize (mirJs js x).length = ul at *
      have HML := Lib.hid hml
      clear hml
      go_wp2_with fail
      refine (specArchOk _ _ _ _ _ js HRA.out HN.out h8).mono ?_
      rintro e w4 ⟨rfl, hb4⟩
      have c24 := cell_kept c2 hb4
      have r4 := cell_kept C1'.out hb4
      have f4 : w4.frozen? ⟨w.heap.size + 1, 0, none⟩ = false := (hb4.frozen (p := ⟨w.heap.size + 1, 0, none⟩) (cell_block_lt C1'.out)).trans F1'.out
      have HR4 := Lib.hid (HRL.out.below hb4)
      have HB4 := Lib.hid (HB.out.trans (hb4.mono HB.out.size))
      clear hb4 c2 f2 c0
      cases ha : archV js
      · have ho : mirOk js x = false := by unfold mirOk; rw [ha]; rfl
        have HOK := Lib.hid ho
        clear ho ha
        go_wp2_with fail
        refine bodyPost_ret (v := .tuple #[.agg #[.slice none 0 0], .bool false]) (by simp [results, Try.results26, go_sem, r4]) rfl ⟨.slice none 0 0, by rw [HOK.out], by rw [mirAV_no HOK.out]; exact JRow.nil _ _, ?_⟩
        exact HB4.out.setCell (p := ⟨w.heap.size + 1, 0, none⟩) (Nat.le_succ _) _
      · have h3 := arch_size ha
        have HA := Lib.hid ha
        have R4 := Lib.hid r4
        have F4 := Lib.hid f4
        have hat : ∃ gu, ua = some ⟨gu, 0, none⟩ ∧ JRowAt w4 (w.heap.size + 3) gu uc (mirJs js x) ∧ w.heap.size + 3 ≤ gu := by
          rcases HR4.out.cases' with ⟨hv, hz⟩ | ⟨gu, cp, hv, r, hB, -⟩
          · have := mirJs_length js x
            rw [hz] at this
            simp at this
            omega
          · simp only [Value.slice.injEq] at hv
            obtain ⟨rfl, -, rfl⟩ := hv
            exact ⟨gu, rfl, r, hB⟩
        obtain ⟨gu, rfl, hru, hgu⟩ := hat
        have hul : (mirJs js x).length = n := by rw [mirJs_length]; exact HN.out
        have hule : ul = n := by rw [HML.out]; exact HN.out
        subst hule
        have HRU := Lib.hid hru
        have HUL := Lib.hid hul
        clear ha hru hul r4 f4
        go_wp2_with fail
        refine (specArchOk _ _ _ _ _ (mirJs js x) HRU.out HUL.out h8).mono ?_
        rintro e w5 ⟨rfl, hb5⟩
        have c25 := cell_kept c24 hb5
        have r5 := cell_kept R4.out hb5
        have f5 : w5.frozen? ⟨w.heap.size + 1, 0, none⟩ = false := (hb5.frozen (p := ⟨w.heap.size + 1, 0, none⟩) (cell_block_lt R4.out)).trans F4.out
        have HR5 := Lib.hid (HRU.out.below hb5)
        have HB5 := Lib.hid (HB4.out.trans (hb5.mono HB4.out.size))
        clear hb5 c24
        cases hm : archV (mirJs js x)
        · have ho : mirOk js x = false := by unfold mirOk; rw [hm]; simp
          have HOK := Lib.hid ho
          clear ho hm
          go_wp2_with fail
          refine bodyPost_ret (v := .tuple #[.agg #[.slice none 0 0], .bool false]) (by simp [results, Try.results26, go_sem, r5]) rfl ⟨.slice none 0 0, by rw [HOK.out], by rw [mirAV_no HOK.out]; exact JRow.nil _ _, ?_⟩
          exact HB5.out.setCell (p := ⟨w.heap.size + 1, 0, none⟩) (Nat.le_succ _) _
        · have ho : mirOk js x = true := by unfold mirOk; rw [hm, HA.out]; rfl
          have HOK := Lib.hid ho
          clear ho hm
          go_wp2_with fail
          refine bodyPost_ret (v := .tuple #[.agg #[.slice (some ⟨gu, 0, none⟩) ul uc], .bool true]) (by simp [results, Try.results26, go_sem, r5]) rfl ⟨.slice (some ⟨gu, 0, none⟩) ul uc, by rw [HOK.out], ?_, ?_⟩
          · rw [mirAV_yes HOK.out]
            have h1 : JRow w5 (w.heap.size + 3) (.slice (some ⟨gu, 0, none⟩) ul uc) (mirJs js x) := by have := HR5.out.row; rw [HUL.out] at this; exact this
            exact owns_base (B := w.heap.size + 3) (B' := w.heap.size) (ownsRow_setCell_other h1 (a := ⟨w.heap.size + 1, 0, none⟩) (fun he => by simp [Value.ownBlock] at he; omega) _) (by omega)
          · exact HB5.out.setCell (p := ⟨w.heap.size + 1, 0, none⟩) (Nat.le_succ _) _
    · obtain ⟨k, rfl⟩ : ∃ k, m = k + 1 := ⟨m - 1, by omega⟩
      have hk : ((k + 1 : Nat) : Int) - 1 = (k : Int) := by omega
      rw [hk]
      have hkn : k < n := by omega
      have hk0 : (0 : Int) ≤ (k : Int) := Int.natCast_nonneg _
      have hk1 : (k : Int) < (n : Int) := by omega
      obtain ⟨a0, a1, a2, a3⟩ := (HR0.out.below hbw).cells k (by omega)
      have HM := Lib.hid (mirJTo_next js x k (by omega))
      have hl6 : (mirJTo js x (k + 1)).length ≤ 1048576 := by omega
      obtain ⟨⟨⟨ax, ay⟩, ⟨bx, by_⟩⟩, ep⟩ : ∃ p, jt js k = p := ⟨_, rfl⟩
      rw [ep] at a0 a1 a2 a3
      dsimp only at a0 a1 a2 a3
      have HMI := Lib.hid (show mirJ x (jt js k) = ((mirX ax ay x, ay), (mirX bx by_ x, by_)) by rw [ep]; rfl)
      have D0 := Lib.hid c0
      have D1 := Lib.hid c1
      have G1 := Lib.hid f1
      have D2 := Lib.hid c2
      have G2 := Lib.hid f2
      generalize hul : (mirJTo js x (k + 1)).length = ul at *
      have HUL := Lib.hid hul
      clear hbw hk ep hlN hull hul hrow
      have l4 : w.heap.size + 2 < wr.heap.size := cell_block_lt c2
      go_wp2_with fail
      go_region_law
        (first
          | (go_simp; go_at_call 42
             refine (specMirrorJoint _ _ _ _ _ _).mono ?_
             rintro e w5 ⟨rfl, hb5⟩
             have e0 : w5.cell? ⟨w.heap.size, 0, none⟩ = some (.slice (some ⟨g, 0, none⟩) n cap) := cell_after D0.out hb5
             have e3 : w5.cell? ⟨w.heap.size + 1 + 1, 0, none⟩ = some (.slice ua ul uc) := cell_after D2.out hb5
             have g5 : w5.frozen? ⟨w.heap.size + 1 + 1, 0, none⟩ = false := (hb5.frozen (p := ⟨w.heap.size + 1 + 1, 0, none⟩) (cell_block_lt D2.out)).trans G2.out
             have E1 := Lib.hid (cell_after D1.out hb5)
             have G5 : RowKit.Hid (w5.frozen? ⟨w.heap.size + 1, 0, none⟩ = false) := Lib.hid ((hb5.frozen (p := ⟨w.heap.size + 1, 0, none⟩) (cell_block_lt D1.out)).trans G1.out)
             have hr5 : w5.ownsRow (w.heap.size + 3) 50 4 (.slice ua ul uc) ul (flatJ (mirJTo js x (k + 1))) := by have h := owns_after4 HRW.out hb5; rw [HUL.out] at h; exact h
             have HR5 := Lib.hid hr5
             have HB5 := Lib.hid (below_after HB.out hb5)
             have l5 : w.heap.size + 2 < w5.heap.size := cell_block_lt e3
             clear hb5 hr5)
          | (refine step_append_lies _ (by rfl) _ _ _ (by rfl) (w.heap.size + 3) 50 i0 _ 4 32 Try.underlying27 hi0 hz0 hz1 hz2 rfl (by omega) (.slice ua ul uc) _ _ (by rfl) (HR5.out.alloc _)
              ⟨w5.heap.size, 0, none⟩ 1 1 [.int .i64 (mirX ax ay x), .int .i64 ay, .int .i64 (mirX bx by_ x), .int .i64 by_] (by rfl) (by rfl) (World.news_of_block (cs := #[.int .i64 (mirX ax ay x), .int .i64 ay, .int .i64 (mirX bx by_ x), .int .i64 by_]) (t := 50) (fr := (0, 0)) (heap_alloc_new w5 _)) (by simp [Value.oneCell'])
              (by omega) (by unfold maxLen; omega) (by omega) (by simp; omega) (w5.heap.size + 1) (by simp) ?_; intro gg cap2 w6 hown6 hgrow6 hat hgl
             have z2 : w6.cell? ⟨w.heap.size + 1 + 1, 0, none⟩ = some (.slice ua ul uc) := far4_cell HR5.out hgrow6 (by omega) e3
             have z3 : w6.frozen? ⟨w.heap.size + 1 + 1, 0, none⟩ = false := far4_frozen HR5.out hgrow6 (by omega) e3 g5))
      all_goals
        have x0 := cell_far4 (far4_cell HR5.out hgrow6 (by omega) e0) (w.heap.size + 1 + 1) 0 (by omega) (.slice (some ⟨gg, 0, none⟩) (ul + 1) cap2)
        have x1 := cell_far4 (far4_cell HR5.out hgrow6 (by omega) E1.out) (w.heap.size + 1 + 1) 0 (by omega) (.slice (some ⟨gg, 0, none⟩) (ul + 1) cap2)
        have y1 : (w6.setCell ⟨w.heap.size + 1 + 1, 0, none⟩ (.slice (some ⟨gg, 0, none⟩) (ul + 1) cap2)).frozen? ⟨w.heap.size + 1, 0, none⟩ = false := by
          rw [World.frozen?_setCell]; exact far4_frozen HR5.out hgrow6 (by omega) E1.out G5.out
        have y2 : (w6.setCell ⟨w.heap.size + 1 + 1, 0, none⟩ (.slice (some ⟨gg, 0, none⟩) (ul + 1) cap2)).frozen? ⟨w.heap.size + 1 + 1, 0, none⟩ = false := by
          rw [World.frozen?_setCell]; exact z3
        have x2 : (w6.setCell ⟨w.heap.size + 1 + 1, 0, none⟩ (.slice (some ⟨gg, 0, none⟩) (ul + 1) cap2)).cell? ⟨w.heap.size + 1 + 1, 0, none⟩ = some (.slice (some ⟨gg, 0, none⟩) (ul + 1) cap2) := by go_simp
        have hrow6 : JRow (w6.setCell ⟨w.heap.size + 1 + 1, 0, none⟩ (.slice (some ⟨gg, 0, none⟩) (ul + 1) cap2)) (w.heap.size + 3) (.slice (some ⟨gg, 0, none⟩) (ul + 1) cap2) (mirJTo js x k) := by
          refine ownsRow_setCell_other ?_ (a := ⟨w.heap.size + 1 + 1, 0, none⟩) (fun he => ?_) _
          · rw [HM.out, List.length_append, flatJ_append, HMI.out, HUL.out]
            exact hown6
          · have := (World.ownsRow.lt hown6 _ he).1
            dsimp only at this
            omega
        have hb6 := (far4_below HR5.out hgrow6 (by omega) HB5.out).setCell (p := ⟨w.heap.size + 1 + 1, 0, none⟩) (Nat.le_add_right _ 2) (.slice (some ⟨gg, 0, none⟩) (ul + 1) cap2)
        have X0 := Lib.hid x0
        have X1 := Lib.hid x1
        have Y1 := Lib.hid y1
        have X2 := Lib.hid x2
        have Y2 := Lib.hid y2
        have HR6 := Lib.hid hrow6
        have HB6 := Lib.hid hb6
        clear x0 x1 y1 y2 x2 hrow6 hb6 hown6 hgrow6 z2 z3 e0 e3 g5 c0 c1 c2 f1 f2 a0 a1 a2 a3
        go_wp2_with fail
        go_roundw
      all_goals first
        | exact ⟨k, _, by omega, rfl, HR6.out, HB6.out, X0.out, X1.out, Y1.out, X2.out, Y2.out⟩
        | (show ((k : Int) - 1 + 1).toNat < ((k : Int) + 1).toNat; omega)
end Go.Proofs.Ytggkodhfhhjihaa
