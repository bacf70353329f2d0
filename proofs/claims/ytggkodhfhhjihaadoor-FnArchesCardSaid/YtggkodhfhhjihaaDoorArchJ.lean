/- Arches: the contracts of the program's SpanOf, RiseOf, StoneOf. -/
import Derived.Test.YtggkodhfhhjihaaDoorArchI
namespace Go.Proofs.YtggkodhfhhjihaaDoor
set_option maxRecDepth 100000
open Go.ChangeShapes Go.WideShapes Go.ChangeAt Go.RowKit

set_option maxHeartbeats 1000000 in
theorem implSpanOf (w : World) (B g cap n : Nat) (js : List Jt) (hr : JRowAt w B g cap js) (hn : js.length = n) :
    Calls Tryd.prog 10 #[.agg #[.slice (some ⟨g, 0, none⟩) n cap]] w fun e w' => e = .returned (.int .i64 (spanV js)) ∧ Below w.heap.size w w' := by
  have hb0 := (Below.refl w.heap.size w).alloc (Nat.le_refl _) (.cells #[.slice (some ⟨g, 0, none⟩) n cap] 26)
  have HR := Lib.hid (hr.below hb0)
  have HB0 := Lib.hid hb0
  have HN := Lib.hid hn
  clear hr hn hb0
  cases h : archV js
  · have H := Lib.hid h
    have HV := Lib.hid (spanV_no h)
    clear h
    go_enter Tryd.func10, Tryd.ntmps10
    go_wp2_with fail
    refine (buildNo _ _ _ _ _ js HR.out HN.out H.out).mono ?_
    rintro e w1 ⟨rfl, hb1⟩
    have HB1 := Lib.hid (HB0.out.trans (hb1.mono HB0.out.size))
    clear hb1
    go_wp2_with fail
    go_ret
    exact ⟨ret_i64 HV.out.symm, below_al3 HB1.out _⟩
  · have H := Lib.hid h
    have hv := spanV_yes h
    have h3 := arch_size h
    rw [HN.out] at hv h3
    have hF := fun W k => rowFirst W B g cap n js k HN.out (by omega)
    have hL := fun W k => rowLast W B g cap n js k HN.out (by omega)
    have ho0 := okP_iff.1 (arch_ok h (i := 0) (by have := HN.out; omega)).1
    have ho1 := okP_iff.1 (arch_ok h (i := n - 1) (by have := HN.out; omega)).1
    generalize (jt js 0).1.1 = x0 at *
    generalize (jt js 0).1.2 = y0 at *
    generalize (jt js 0).2.1 = z0 at *
    generalize (jt js 0).2.2 = u0 at *
    generalize (jt js (n - 1)).1.1 = x1 at *
    generalize (jt js (n - 1)).1.2 = y1 at *
    generalize (jt js (n - 1)).2.1 = z1 at *
    generalize (jt js (n - 1)).2.2 = u1 at *
    have HF := Lib.hid hF
    have HL := Lib.hid hL
    have HV := Lib.hid hv
    have hfd0 : ∀ W : World, (Instr.field 60 (.agg #[.int .i64 x0, .int .i64 y0, .int .i64 z0, .int .i64 u0]) 0).run Tryd.prog W = .ok (.agg #[.int .i64 x0, .int .i64 y0]) W := fun _ => by kernel_rfl
    have hfd1 : ∀ W : World, (Instr.field 58 (.agg #[.int .i64 x0, .int .i64 y0]) 0).run Tryd.prog W = .ok (.int .i64 x0) W := fun _ => by kernel_rfl
    have hfd2 : ∀ W : World, (Instr.field 60 (.agg #[.int .i64 x1, .int .i64 y1, .int .i64 z1, .int .i64 u1]) 0).run Tryd.prog W = .ok (.agg #[.int .i64 x1, .int .i64 y1]) W := fun _ => by kernel_rfl
    have hfd3 : ∀ W : World, (Instr.field 58 (.agg #[.int .i64 x1, .int .i64 y1]) 0).run Tryd.prog W = .ok (.int .i64 x1) W := fun _ => by kernel_rfl
    clear h hF hL hv
    go_enter Tryd.func10, Tryd.ntmps10
    go_wp2_with fail
    refine (buildYes _ _ _ _ _ js HR.out HN.out H.out).mono ?_
    rintro e w1 ⟨sg, sc, rfl, hbu, hb1⟩
    have HB1 := Lib.hid (below_al3 (HB0.out.trans (hb1.mono HB0.out.size)) (.cells #[.slice (some ⟨g, 0, none⟩) n cap, .slice (some ⟨sg, 0, none⟩) (n - 1) sc] 53))
    have HR1 := Lib.hid ((HR.out.below hb1).below ((Below.refl w1.heap.size w1).alloc (Nat.le_refl _) (.cells #[.slice (some ⟨g, 0, none⟩) n cap, .slice (some ⟨sg, 0, none⟩) (n - 1) sc] 53)))
    have hk0 : (w1.alloc (.cells #[.slice (some ⟨g, 0, none⟩) n cap, .slice (some ⟨sg, 0, none⟩) (n - 1) sc] 53)).cell? ⟨w1.heap.size, 0, none⟩ = some (.slice (some ⟨g, 0, none⟩) n cap) := by go_simp
    have hk1 : w1.heap.size < (w1.alloc (.cells #[.slice (some ⟨g, 0, none⟩) n cap, .slice (some ⟨sg, 0, none⟩) (n - 1) sc] 53)).heap.size := by simp
    clear hb1 hbu
    go_wp2_with fail
    generalize hW : w1.alloc (.cells #[.slice (some ⟨g, 0, none⟩) n cap, .slice (some ⟨sg, 0, none⟩) (n - 1) sc] 53) = W at *
    have hn1 := Since.nonempty W
    have hS := fun (x : Since W) => (x.cell w1.heap.size 0 hk1).trans hk0
    refine wp_region_since (by kernel_rfl) (by kernel_rfl) ?_
    repeat (go_big_quiet_step (first
      | (go_at_call 27; exact Since.call (HF.out _ (HR1.out.below (Since.below _))))
      | (go_at_call 26; exact Since.call (HL.out _ (HR1.out.below (Since.below _))))))
    refine wpQuiet_nil ?_
    rintro w2 ⟨⟨_, hb2⟩, rfl⟩
    go_wp2_with fail
    go_ret
    exact ⟨ret_i64 HV.out.symm, HB1.out.trans (hb2.mono HB1.out.size)⟩

set_option maxHeartbeats 1000000 in
theorem implRiseOf (w : World) (B g cap n : Nat) (js : List Jt) (hr : JRowAt w B g cap js) (hn : js.length = n) :
    Calls Tryd.prog 11 #[.agg #[.slice (some ⟨g, 0, none⟩) n cap]] w fun e w' => e = .returned (.int .i64 (riseV js)) ∧ Below w.heap.size w w' := by
  have hb0 := (Below.refl w.heap.size w).alloc (Nat.le_refl _) (.cells #[.slice (some ⟨g, 0, none⟩) n cap] 26)
  have HR := Lib.hid (hr.below hb0)
  have HB0 := Lib.hid hb0
  have HN := Lib.hid hn
  clear hr hn hb0
  cases h : archV js
  · have H := Lib.hid h
    have HV := Lib.hid (riseV_no h)
    clear h
    go_enter Tryd.func11, Tryd.ntmps11
    go_wp2_with fail
    refine (buildNo _ _ _ _ _ js HR.out HN.out H.out).mono ?_
    rintro e w1 ⟨rfl, hb1⟩
    have HB1 := Lib.hid (HB0.out.trans (hb1.mono HB0.out.size))
    clear hb1
    go_wp2_with fail
    go_ret
    exact ⟨ret_i64 HV.out.symm, below_al3 HB1.out _⟩
  · have H := Lib.hid h
    have hv := riseV_yes h
    have h3 := arch_size h
    rw [HN.out] at hv h3
    have hbt := topY_bd h n (by rw [HN.out]; omega)
    have hT := fun W k => rowTop W B g cap n js k HN.out (by omega) (by omega)
    have hF := fun W k => rowFirst W B g cap n js k HN.out (by omega)
    have hL := fun W k => rowLast W B g cap n js k HN.out (by omega)
    have ho0 := okP_iff.1 (arch_ok h (i := 0) (by have := HN.out; omega)).1
    have ho1 := okP_iff.1 (arch_ok h (i := n - 1) (by have := HN.out; omega)).1
    generalize topY js n = T at *
    generalize (jt js 0).1.1 = x0 at *
    generalize (jt js 0).1.2 = y0 at *
    generalize (jt js 0).2.1 = z0 at *
    generalize (jt js 0).2.2 = u0 at *
    generalize (jt js (n - 1)).1.1 = x1 at *
    generalize (jt js (n - 1)).1.2 = y1 at *
    generalize (jt js (n - 1)).2.1 = z1 at *
    generalize (jt js (n - 1)).2.2 = u1 at *
    have HF := Lib.hid hF
    have HL := Lib.hid hL
    have HT := Lib.hid hT
    have hfd0 : ∀ W : World, (Instr.field 60 (.agg #[.int .i64 x0, .int .i64 y0, .int .i64 z0, .int .i64 u0]) 0).run Tryd.prog W = .ok (.agg #[.int .i64 x0, .int .i64 y0]) W := fun _ => by kernel_rfl
    have hfd1 : ∀ W : World, (Instr.field 58 (.agg #[.int .i64 x0, .int .i64 y0]) 1).run Tryd.prog W = .ok (.int .i64 y0) W := fun _ => by kernel_rfl
    have hfd2 : ∀ W : World, (Instr.field 60 (.agg #[.int .i64 x1, .int .i64 y1, .int .i64 z1, .int .i64 u1]) 0).run Tryd.prog W = .ok (.agg #[.int .i64 x1, .int .i64 y1]) W := fun _ => by kernel_rfl
    have hfd3 : ∀ W : World, (Instr.field 58 (.agg #[.int .i64 x1, .int .i64 y1]) 1).run Tryd.prog W = .ok (.int .i64 y1) W := fun _ => by kernel_rfl
    have HV0 := Lib.hid hv
    by_cases hmn : y1 < y0
    · have HV := Lib.hid (show riseV js = T - y1 by rw [HV0.out]; omega)
      clear h hF hL hT hv
      go_enter Tryd.func11, Tryd.ntmps11
      go_wp2_with fail
      refine (buildYes _ _ _ _ _ js HR.out HN.out H.out).mono ?_
      rintro e w1 ⟨sg, sc, rfl, hbu, hb1⟩
      have HB1 := Lib.hid (below_al3 (HB0.out.trans (hb1.mono HB0.out.size)) (.cells #[.slice (some ⟨g, 0, none⟩) n cap, .slice (some ⟨sg, 0, none⟩) (n - 1) sc] 53))
      have HR1 := Lib.hid ((HR.out.below hb1).below ((Below.refl w1.heap.size w1).alloc (Nat.le_refl _) (.cells #[.slice (some ⟨g, 0, none⟩) n cap, .slice (some ⟨sg, 0, none⟩) (n - 1) sc] 53)))
      have hk0 : (w1.alloc (.cells #[.slice (some ⟨g, 0, none⟩) n cap, .slice (some ⟨sg, 0, none⟩) (n - 1) sc] 53)).cell? ⟨w1.heap.size, 0, none⟩ = some (.slice (some ⟨g, 0, none⟩) n cap) := by go_simp
      have hk1 : w1.heap.size < (w1.alloc (.cells #[.slice (some ⟨g, 0, none⟩) n cap, .slice (some ⟨sg, 0, none⟩) (n - 1) sc] 53)).heap.size := by simp
      clear hb1 hbu
      go_wp2_with fail
      generalize hW : w1.alloc (.cells #[.slice (some ⟨g, 0, none⟩) n cap, .slice (some ⟨sg, 0, none⟩) (n - 1) sc] 53) = W at *
      have hn1 := Since.nonempty W
      have hS := fun (x : Since W) => (x.cell w1.heap.size 0 hk1).trans hk0
      refine wp_region_since (by kernel_rfl) (by kernel_rfl) ?_
      repeat (go_big_quiet_step (first
        | (go_at_call 27; exact Since.call (HF.out _ (HR1.out.below (Since.below _))))
        | (go_at_call 28; exact Since.call (HT.out _ (HR1.out.below (Since.below _))))
        | (go_at_call 26; exact Since.call (HL.out _ (HR1.out.below (Since.below _))))))
      refine wpQuiet_nil ?_
      rintro w2 ⟨⟨_, hb2⟩, rfl⟩
      go_wp2_with fail
      go_ret
      exact ⟨ret_i64 HV.out.symm, HB1.out.trans (hb2.mono HB1.out.size)⟩
    · have HV := Lib.hid (show riseV js = T - y0 by rw [HV0.out]; omega)
      clear h hF hL hT hv
      go_enter Tryd.func11, Tryd.ntmps11
      go_wp2_with fail
      refine (buildYes _ _ _ _ _ js HR.out HN.out H.out).mono ?_
      rintro e w1 ⟨sg, sc, rfl, hbu, hb1⟩
      have HB1 := Lib.hid (below_al3 (HB0.out.trans (hb1.mono HB0.out.size)) (.cells #[.slice (some ⟨g, 0, none⟩) n cap, .slice (some ⟨sg, 0, none⟩) (n - 1) sc] 53))
      have HR1 := Lib.hid ((HR.out.below hb1).below ((Below.refl w1.heap.size w1).alloc (Nat.le_refl _) (.cells #[.slice (some ⟨g, 0, none⟩) n cap, .slice (some ⟨sg, 0, none⟩) (n - 1) sc] 53)))
      have hk0 : (w1.alloc (.cells #[.slice (some ⟨g, 0, none⟩) n cap, .slice (some ⟨sg, 0, none⟩) (n - 1) sc] 53)).cell? ⟨w1.heap.size, 0, none⟩ = some (.slice (some ⟨g, 0, none⟩) n cap) := by go_simp
      have hk1 : w1.heap.size < (w1.alloc (.cells #[.slice (some ⟨g, 0, none⟩) n cap, .slice (some ⟨sg, 0, none⟩) (n - 1) sc] 53)).heap.size := by simp
      clear hb1 hbu
      go_wp2_with fail
      generalize hW : w1.alloc (.cells #[.slice (some ⟨g, 0, none⟩) n cap, .slice (some ⟨sg, 0, none⟩) (n - 1) sc] 53) = W at *
      have hn1 := Since.nonempty W
      have hS := fun (x : Since W) => (x.cell w1.heap.size 0 hk1).trans hk0
      refine wp_region_since (by kernel_rfl) (by kernel_rfl) ?_
      repeat (go_big_quiet_step (first
        | (go_at_call 27; exact Since.call (HF.out _ (HR1.out.below (Since.below _))))
        | (go_at_call 28; exact Since.call (HT.out _ (HR1.out.below (Since.below _))))
        | (go_at_call 26; exact Since.call (HL.out _ (HR1.out.below (Since.below _))))))
      refine wpQuiet_nil ?_
      rintro w2 ⟨⟨_, hb2⟩, rfl⟩
      go_wp2_with fail
      go_ret
      exact ⟨ret_i64 HV.out.symm, HB1.out.trans (hb2.mono HB1.out.size)⟩

/-- A stone of an arch was handed back, in new memory; what was there is as it was. -/
def SoAns (js : List Jt) (k : Int) (w : World) (e : Ending) (w' : World) : Prop :=
  ∃ u, e = .returned (.agg #[u]) ∧ Row w' w.heap.size u (soV js k) ∧ Below w.heap.size w w'

set_option maxHeartbeats 1000000 in
theorem implStoneOf (w : World) (B g cap n : Nat) (js : List Jt) (k : Int) (hr : JRowAt w B g cap js) (hn : js.length = n) :
    Calls Tryd.prog 13 #[.agg #[.slice (some ⟨g, 0, none⟩) n cap], .int .i64 k] w (SoAns js k w) := by
  have hb0 := two_below w #[.slice (some ⟨g, 0, none⟩) n cap] #[.slice none 0 0] 26 35
  have HR := Lib.hid (hr.below hb0)
  have HB0 := Lib.hid hb0
  have HN := Lib.hid hn
  clear hr hn hb0
  cases h : archV js
  · have H := Lib.hid h
    have HV := Lib.hid (soV_arch h k)
    clear h
    by_cases hk : k < 0
    all_goals
      go_enter Tryd.func13, Tryd.ntmps13
      go_wp2_with fail
      refine (buildNo _ _ _ _ _ js HR.out HN.out H.out).mono ?_
      rintro e w1 ⟨rfl, hb1⟩
      have c0 : w1.cell? ⟨w.heap.size + 1, 0, none⟩ = some (.slice none 0 0) := (hb1.cell (p := ⟨w.heap.size + 1, 0, none⟩) (by simp)).trans (by go_simp)
      have f0 : w1.frozen? ⟨w.heap.size + 1, 0, none⟩ = false := (hb1.frozen (p := ⟨w.heap.size + 1, 0, none⟩) (by simp)).trans (by go_simp)
      have l1 := cell_block_lt c0
      dsimp only at l1
      have HB1 := Lib.hid (HB0.out.trans (hb1.mono HB0.out.size))
      clear hb1
      go_wp2_with fail
      have hc : ((w1.setCell ⟨w.heap.size + 1, 0, none⟩ (.slice none 0 0)).alloc (.cells #[.slice none 0 0, .slice none 0 0] 53)).cell? ⟨w.heap.size + 1, 0, none⟩ = some (.slice none 0 0) := by rw [World.cell?_alloc_lt _ _ _ (by simpa using l1)]; go_simp
      refine bodyPost_ret (v := .agg #[.slice none 0 0]) (by simp [results, Tryd.results13, go_sem, hc]) rfl ⟨.slice none 0 0, rfl, by rw [HV.out]; exact Row.nil _ _, ?_⟩
      exact below_al3 (HB1.out.setCell (p := ⟨w.heap.size + 1, 0, none⟩) (by show w.heap.size ≤ w.heap.size + 1; omega) _) _
  · have H := Lib.hid h
    have h3 := arch_size h
    rw [HN.out] at h3
    by_cases hin : 0 ≤ k ∧ k < (n : Int) - 1
    · obtain ⟨i, hi⟩ : ∃ i : Nat, k = (i : Int) := ⟨k.toNat, by omega⟩
      subst hi
      have hin' : i < n - 1 := by omega
      have HV := Lib.hid (soV_yes h (k := i) (by rw [HN.out]; omega))
      have hk0 : ¬ (i : Int) < 0 := by omega
      have hk1 : ¬ ((n - 1 : Nat) : Int) ≤ (i : Int) := by omega
      have hk2 : (0 : Int) ≤ (i : Int) := by omega
      have hk3 : (i : Int) < ((n - 1 : Nat) : Int) := by omega
      have hb8 : n - 1 ≤ 7 := by omega
      clear h hin
      go_enter Tryd.func13, Tryd.ntmps13
      go_wp2_with fail
      refine (buildYes _ _ _ _ _ js HR.out HN.out H.out).mono ?_
      rintro e w1 ⟨sg, sc, rfl, hbu, hb1⟩
      have c0 : w1.cell? ⟨w.heap.size + 1, 0, none⟩ = some (.slice none 0 0) := (hb1.cell (p := ⟨w.heap.size + 1, 0, none⟩) (by simp)).trans (by go_simp)
      have f0 : w1.frozen? ⟨w.heap.size + 1, 0, none⟩ = false := (hb1.frozen (p := ⟨w.heap.size + 1, 0, none⟩) (by simp)).trans (by go_simp)
      have l1 := cell_block_lt c0
      dsimp only at l1
      have HB1 := Lib.hid (HB0.out.trans (hb1.mono HB0.out.size))
      obtain ⟨hsr, hsl, hsc, hsm⟩ := hbu
      obtain ⟨ua, um, uc, hu, hru⟩ := hsr.at (stonesTo_length js (n - 1)) i hin'
      have hru' : Row w1 w.heap.size (.slice ua um uc) (soV js i) := by
        rw [HV.out, ← st_stonesTo js (n - 1) i hin']
        exact hru.base (by simp <;> omega)
      have hne : (Value.slice ua um uc).ownBlock ≠ some (w.heap.size + 1) := fun he => by
        have := (World.ownsRow.lt hru _ he).1
        simp at this
        omega
      have HRU := Lib.hid hru'
      have HNE := Lib.hid hne
      unfold maxLen at hsm
      clear hb1 hsr hru hru' hne
      generalize n - 1 = m at *
      go_wp2_with fail
      have hc : ((w1.setCell ⟨w.heap.size + 1, 0, none⟩ (.slice ua um uc)).alloc (.cells #[.slice (some ⟨g, 0, none⟩) n cap, .slice (some ⟨sg, 0, none⟩) m sc] 53)).cell? ⟨w.heap.size + 1, 0, none⟩ = some (.slice ua um uc) := by rw [World.cell?_alloc_lt _ _ _ (by simpa using l1)]; go_simp
      refine bodyPost_ret (v := .agg #[.slice ua um uc]) (by simp [results, Tryd.results13, go_sem, hc]) rfl ⟨_, rfl, ?_, ?_⟩
      · exact World.ownsRow.alloc (ownsRow_setCell_other HRU.out (a := ⟨w.heap.size + 1, 0, none⟩) HNE.out _) _
      · exact below_al3 (HB1.out.setCell (p := ⟨w.heap.size + 1, 0, none⟩) (by show w.heap.size ≤ w.heap.size + 1; omega) _) _
    · have HV := Lib.hid (soV_no (js := js) (k := k) (by rw [HN.out]; exact hin))
      have hk1 : ¬ k < 0 → ((n - 1 : Nat) : Int) ≤ k := by omega
      clear h
      by_cases hk : k < 0
      all_goals
        try have hk2 := hk1 hk
        go_enter Tryd.func13, Tryd.ntmps13
        go_wp2_with fail
        refine (buildYes _ _ _ _ _ js HR.out HN.out H.out).mono ?_
        rintro e w1 ⟨sg, sc, rfl, hbu, hb1⟩
        have c0 : w1.cell? ⟨w.heap.size + 1, 0, none⟩ = some (.slice none 0 0) := (hb1.cell (p := ⟨w.heap.size + 1, 0, none⟩) (by simp)).trans (by go_simp)
        have f0 : w1.frozen? ⟨w.heap.size + 1, 0, none⟩ = false := (hb1.frozen (p := ⟨w.heap.size + 1, 0, none⟩) (by simp)).trans (by go_simp)
        have l1 := cell_block_lt c0
        dsimp only at l1
        have HB1 := Lib.hid (HB0.out.trans (hb1.mono HB0.out.size))
        clear hb1 hbu
        go_wp2_with fail
        have hc : ((w1.setCell ⟨w.heap.size + 1, 0, none⟩ (.slice none 0 0)).alloc (.cells #[.slice (some ⟨g, 0, none⟩) n cap, .slice (some ⟨sg, 0, none⟩) (n - 1) sc] 53)).cell? ⟨w.heap.size + 1, 0, none⟩ = some (.slice none 0 0) := by rw [World.cell?_alloc_lt _ _ _ (by simpa using l1)]; go_simp
        refine bodyPost_ret (v := .agg #[.slice none 0 0]) (by simp [results, Tryd.results13, go_sem, hc]) rfl ⟨.slice none 0 0, rfl, by rw [HV.out]; exact Row.nil _ _, ?_⟩
        exact below_al3 (HB1.out.setCell (p := ⟨w.heap.size + 1, 0, none⟩) (by show w.heap.size ≤ w.heap.size + 1; omega) _) _
end Go.Proofs.YtggkodhfhhjihaaDoor
