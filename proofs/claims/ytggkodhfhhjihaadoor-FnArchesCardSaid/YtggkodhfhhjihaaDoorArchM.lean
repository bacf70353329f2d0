/- Arches: the contracts of the program's mirrored, MirrorArch. -/
import Derived.Test.YtggkodhfhhjihaaDoorArchI
import Derived.Test.YtggkodhfhhjihaaDoorArchL
import Derived.Test.YtggkodhfhhjihaaDoorJointD
namespace Go.Proofs.YtggkodhfhhjihaaDoor
set_option maxRecDepth 100000
open Go.ChangeShapes Go.WideShapes Go.ChangeAt Go.RowKit

/-- The row as far as it has been filled from its end. -/
def flatJUp (js : List Jt) (x : Int) (k : Nat) : List Value := List.replicate ((js.length - k) * 4) (.int .i64 0) ++ flatJ (mirJUp js x k)
theorem flatJUp_zero (js : List Jt) (x : Int) : flatJUp js x 0 = List.replicate (js.length * 4) (.int .i64 0) := by simp [flatJUp, mirJUp, flatJ]
theorem flatJUp_end (js : List Jt) (x : Int) : flatJUp js x js.length = flatJ (mirJs js x) := by simp [flatJUp, mirJUp_all]
theorem flatJUp_at (js : List Jt) (x : Int) (k i : Nat) (h : k < js.length) (hi : i < 4) : (flatJUp js x k)[(js.length - 1 - k) * 4 + i]? = some (.int .i64 0) := by
  unfold flatJUp
  rw [List.getElem?_append_left (by simp; omega), List.getElem?_replicate, if_pos (by omega)]
theorem flatJUp_next (js : List Jt) (x : Int) (k : Nat) (h : k < js.length) :
    ((((flatJUp js x k).set ((js.length - 1 - k) * 4) (.int .i64 (mirJ x (jt js k)).1.1)).set ((js.length - 1 - k) * 4 + 1) (.int .i64 (mirJ x (jt js k)).1.2)).set ((js.length - 1 - k) * 4 + 2) (.int .i64 (mirJ x (jt js k)).2.1)).set ((js.length - 1 - k) * 4 + 3) (.int .i64 (mirJ x (jt js k)).2.2) = flatJUp js x (k + 1) := by
  unfold flatJUp
  rw [show (js.length - k) * 4 = (js.length - 1 - k) * 4 + 4 by omega, ← List.replicate_append_replicate, List.append_assoc]
  have hl : (List.replicate ((js.length - 1 - k) * 4) (Value.int .i64 0)).length = (js.length - 1 - k) * 4 := by simp
  rw [List.set_append_right _ _ (by omega), hl, Nat.sub_self, List.set_append_right _ _ (by omega), hl, show (js.length - 1 - k) * 4 + 1 - (js.length - 1 - k) * 4 = 1 by omega,
    List.set_append_right _ _ (by omega), hl, show (js.length - 1 - k) * 4 + 2 - (js.length - 1 - k) * 4 = 2 by omega, List.set_append_right _ _ (by omega), hl, show (js.length - 1 - k) * 4 + 3 - (js.length - 1 - k) * 4 = 3 by omega]
  rw [mirJUp_next js x k h, flatJ_cons, show js.length - (k + 1) = js.length - 1 - k by omega]
  rfl

/-- The image of an arch, and whether it is one, were handed back, in new memory; what was there is as it was. -/
def MaAns (js : List Jt) (x : Int) (w : World) (e : Ending) (w' : World) : Prop :=
  ∃ u, e = .returned (.tuple #[.agg #[u], .bool (mirOk js x)]) ∧ JRow w' w.heap.size u (mirAV js x) ∧ Below w.heap.size w w'

set_option maxHeartbeats 2000000 in
theorem rowMirrored (w : World) (B g cap n : Nat) (js : List Jt) (x : Int) (hr : JRowAt w B g cap js) (hn : js.length = n) (h0 : 0 < n) (h8 : n ≤ 8) :
    Calls Tryd.prog 25 #[.slice (some ⟨g, 0, none⟩) n cap, .int .i64 x] w fun e w' => e = .returned (.slice (some ⟨w.heap.size, 0, none⟩) n n) ∧ JRowAt w' w.heap.size w.heap.size n (mirJs js x) ∧ Below w.heap.size w w' := by
  obtain ⟨i0, hi0, hz0, hz1, hz2⟩ := info_parts Tryd.infoJn
  obtain ⟨-, hgw, hc, hm⟩ := hr.lt
  rw [hn] at hc
  unfold maxLen at hm
  have HR := Lib.hid hr
  have HN := Lib.hid hn
  clear hr hn
  go_enter Tryd.func25, Tryd.ntmps25
  go_wp2_with (at_make; refine wpList_make_full _ rfl _ _ 50 rfl w.heap.size 60 i0 (.agg #[.int .i64 0, .int .i64 0, .int .i64 0, .int .i64 0]) 4 Tryd.underlying50 hi0 hz0 hz1 .i64 .i64 _ _ n rfl rfl rfl rfl (by rw [hz2]; omega) (by unfold maxLen; omega) (Nat.le_refl _) ?_; intro w2 hown2 hgrow2; have hb2 : Below w.heap.size w w2 := (Below.refl _ _).grown hgrow2 (Nat.le_refl _) (fun k hk => by cases hk); clear hgrow2)
  rw [made_zeroJ, ← HN.out, ← flatJUp_zero js x, HN.out] at hown2
  go_loopw [15] (fun t w3 => ∃ k : Nat, k ≤ n ∧ t = .int .i64 k ∧ w3.ownsRow w.heap.size 60 4 (.slice (some ⟨w.heap.size, 0, none⟩) n n) n (flatJUp js x k) ∧ Below w.heap.size w w3)
    (fun t _ => n - (intOf t).toNat)
  case atStart => exact ⟨0, Nat.zero_le _, rfl, hown2, hb2⟩
  case round =>
    obtain ⟨k, hk, rfl, hown, hbw⟩ := hrel
    have HO := Lib.hid hown
    have HB := Lib.hid hbw
    have hlN := HN.out
    by_cases hlt : k < n
    · obtain ⟨a0, a1, a2, a3⟩ := (HR.out.below hbw).cells k (by omega)
      have hM := flatJUp_next js x k (by omega)
      have hA0 := flatJUp_at js x k 0 (by omega) (by omega)
      have hA1 := flatJUp_at js x k 1 (by omega) (by omega)
      have hA2 := flatJUp_at js x k 2 (by omega) (by omega)
      have hA3 := flatJUp_at js x k 3 (by omega) (by omega)
      obtain ⟨j, hj⟩ : ∃ j : Nat, j = n - 1 - k := ⟨_, rfl⟩
      rw [hlN, ← hj] at hA0 hA1 hA2 hA3 hM
      obtain ⟨⟨⟨ax, ay⟩, ⟨bx, by_⟩⟩, ep⟩ : ∃ p, jt js k = p := ⟨_, rfl⟩
      rw [ep] at a0 a1 a2 a3 hM
      have HM := Lib.hid hM
      have HA0 := Lib.hid hA0
      have HA1 := Lib.hid hA1
      have HA2 := Lib.hid hA2
      have HA3 := Lib.hid hA3
      have hgl : w.heap.size < wr.heap.size := (World.ownsRow.lt hown _ rfl).2
      have hjn : j < n := by omega
      have hj0 : (0 : Int) ≤ (j : Int) := Int.natCast_nonneg _
      have hj1 : (j : Int) < (n : Int) := by omega
      have e2 : IntKind.i64.wrap ((n : Int) - 1 - (k : Int)) = (j : Int) := by rw [IntWalk.i64_in _ (by omega)]; omega
      have e1 : IntKind.i64.wrap ((n : Int) - 1) = (n : Int) - 1 := IntWalk.i64_in _ (by omega)
      have HO3 := Lib.hid (World.ownsRow.alloc hown (.cells #[.int .i64 ax, .int .i64 ay, .int .i64 bx, .int .i64 by_] 60))
      have HB3 := Lib.hid (hbw.alloc hbw.size (.cells #[.int .i64 ax, .int .i64 ay, .int .i64 bx, .int .i64 by_] 60))
      clear hown hbw hM hA0 hA1 hA2 hA3 ep hlN hj
      go_wp2_with fail
      refine (implMirrorJoint _ _ _ _ _ _).mono ?_
      rintro e w4 ⟨rfl, hb4⟩
      have ho4 := owns_below HO3.out hb4
      have c0 : w4.cell? ⟨w.heap.size, j * 4, none⟩ = some (.int .i64 0) := (World.ownsRow.cellAt ho4 (j * 4) (by omega)).trans HA0.out
      have c1 : w4.cell? ⟨w.heap.size, j * 4 + 1, none⟩ = some (.int .i64 0) := (World.ownsRow.cellAt ho4 (j * 4 + 1) (by omega)).trans HA1.out
      have c2 : w4.cell? ⟨w.heap.size, j * 4 + 2, none⟩ = some (.int .i64 0) := (World.ownsRow.cellAt ho4 (j * 4 + 2) (by omega)).trans HA2.out
      have c3 : w4.cell? ⟨w.heap.size, j * 4 + 3, none⟩ = some (.int .i64 0) := (World.ownsRow.cellAt ho4 (j * 4 + 3) (by omega)).trans HA3.out
      have f0 : w4.frozen? ⟨w.heap.size, j * 4, none⟩ = false := World.ownsRow.frozenAt ho4 (j * 4)
      have f1 : w4.frozen? ⟨w.heap.size, j * 4 + 1, none⟩ = false := World.ownsRow.frozenAt ho4 (j * 4 + 1)
      have f2 : w4.frozen? ⟨w.heap.size, j * 4 + 2, none⟩ = false := World.ownsRow.frozenAt ho4 (j * 4 + 2)
      have f3 : w4.frozen? ⟨w.heap.size, j * 4 + 3, none⟩ = false := World.ownsRow.frozenAt ho4 (j * 4 + 3)
      have hM : ((((flatJUp js x k).set (j * 4) (.int .i64 (mirX ax ay x))).set (j * 4 + 1) (.int .i64 ay)).set (j * 4 + 2) (.int .i64 (mirX bx by_ x))).set (j * 4 + 3) (.int .i64 by_) = flatJUp js x (k + 1) := HM.out
      generalize mirX ax ay x = A at *
      generalize mirX bx by_ x = C at *
      have ho6 := (World.ownsRow.stored (World.ownsRow.stored (World.ownsRow.stored (World.ownsRow.stored ho4 (j * 4) (.int .i64 A)).1 (j * 4 + 1) (.int .i64 ay)).1 (j * 4 + 2) (.int .i64 C)).1 (j * 4 + 3) (.int .i64 by_)).1
      rw [hM] at ho6
      have HO6 := Lib.hid ho6
      have hb46 := HB3.out.trans (hb4.mono HB3.out.size)
      have HB6 := Lib.hid ((((hb46.setCell (p := ⟨w.heap.size, j * 4, none⟩) (Nat.le_refl _) (.int .i64 A)).setCell (p := ⟨w.heap.size, j * 4 + 1, none⟩) (Nat.le_refl _) (.int .i64 ay)).setCell (p := ⟨w.heap.size, j * 4 + 2, none⟩) (Nat.le_refl _) (.int .i64 C)).setCell (p := ⟨w.heap.size, j * 4 + 3, none⟩) (Nat.le_refl _) (.int .i64 by_))
      clear hM ho6 hb46 ho4 hb4 HM HA0 HA1 HA2 HA3 HO3 HB3 HO HB a0 a1 a2 a3
      go_wp2_with fail
      go_roundw
      case rel => exact ⟨k + 1, by omega, by go_num, HO6.out, HB6.out⟩
      case measure => simp [intOf]; omega
    · have hkn : k = n := by omega
      have hrow : JRowAt wr w.heap.size w.heap.size n (mirJs js x) := by
        have := HO.out
        rw [hkn, ← HN.out, flatJUp_end] at this
        show wr.ownsRow _ _ _ (.slice _ (mirJs js x).length n) _ _
        rw [mirJs_length, ← HN.out]
        exact this
      have HW := Lib.hid hrow
      clear hown hbw hrow hlN
      go_wp2_with fail
      go_ret
      exact ⟨rfl, HW.out, HB.out⟩

set_option maxHeartbeats 2000000 in
theorem implMirrorArch (w : World) (B g cap n : Nat) (js : List Jt) (x : Int) (hr : JRowAt w B g cap js) (hn : js.length = n) :
    Calls Tryd.prog 8 #[.agg #[.slice (some ⟨g, 0, none⟩) n cap], .int .i64 x] w (MaAns js x w) := by
  have hb0 := two_below w #[.slice (some ⟨g, 0, none⟩) n cap] #[.slice none 0 0] 26 26
  have HR := Lib.hid (hr.below hb0)
  have HB0 := Lib.hid hb0
  have HN := Lib.hid hn
  clear hr hn hb0
  cases h : archV js
  · have H := Lib.hid h
    have ho : mirOk js x = false := by unfold mirOk; rw [h]; rfl
    have HOK := Lib.hid ho
    clear h ho
    go_enter Tryd.func8, Tryd.ntmps8
    go_wp2_with fail
    refine (buildNo _ _ _ _ _ js HR.out HN.out H.out).mono ?_
    rintro e w1 ⟨rfl, hb1⟩
    have c0 : w1.cell? ⟨w.heap.size + 1, 0, none⟩ = some (.slice none 0 0) := (hb1.cell (p := ⟨w.heap.size + 1, 0, none⟩) (by simp)).trans (by go_simp)
    have f0 : w1.frozen? ⟨w.heap.size + 1, 0, none⟩ = false := (hb1.frozen (p := ⟨w.heap.size + 1, 0, none⟩) (by simp)).trans (by go_simp)
    have l1 := cell_block_lt c0
    dsimp only at l1
    have HB1 := Lib.hid (HB0.out.trans (hb1.mono HB0.out.size))
    clear hb1
    go_wp2_with fail
    have hc : ((w1.setCell ⟨w.heap.size + 1, 0, none⟩ (.slice none 0 0)).alloc (.cells #[.slice none 0 0, .slice none 0 0] 53)).cell? ⟨w.heap.size + 1, 0, none⟩ = some (.slice none 0 0) := by rw [World.cell?_alloc_lt _ _ _ (by simpa using l1)]; go_simp
    refine bodyPost_ret (v := .tuple #[.agg #[.slice none 0 0], .bool false]) (by simp [results, Tryd.results8, go_sem, hc]) rfl ⟨.slice none 0 0, by rw [HOK.out], by rw [mirAV_no HOK.out]; exact JRow.nil _ _, ?_⟩
    exact below_al3 (HB1.out.setCell (p := ⟨w.heap.size + 1, 0, none⟩) (by show w.heap.size ≤ w.heap.size + 1; omega) _) _
  · have H := Lib.hid h
    have h3 := arch_size h
    rw [HN.out] at h3
    obtain ⟨h3, h8⟩ := h3
    clear h
    go_enter Tryd.func8, Tryd.ntmps8
    go_wp2_with fail
    refine (buildYes _ _ _ _ _ js HR.out HN.out H.out).mono ?_
    rintro e w1 ⟨sg, sc, rfl, hbu, hb1⟩
    have c0 : w1.cell? ⟨w.heap.size + 1, 0, none⟩ = some (.slice none 0 0) := (hb1.cell (p := ⟨w.heap.size + 1, 0, none⟩) (by simp)).trans (by go_simp)
    have f0 : w1.frozen? ⟨w.heap.size + 1, 0, none⟩ = false := (hb1.frozen (p := ⟨w.heap.size + 1, 0, none⟩) (by simp)).trans (by go_simp)
    have l1 := cell_block_lt c0
    dsimp only at l1
    have C0 := Lib.hid c0
    have F0 := Lib.hid f0
    have hbX : Below w1.heap.size w1 (w1.alloc (.cells #[.slice (some ⟨g, 0, none⟩) n cap, .slice (some ⟨sg, 0, none⟩) (n - 1) sc] 53)) := (Below.refl _ _).alloc (Nat.le_refl _) _
    have HB1 := Lib.hid (HB0.out.trans (hb1.mono HB0.out.size))
    have HR1 := Lib.hid ((HR.out.below hb1).below hbX)
    have HBX := Lib.hid hbX
    clear hb1 hbu hbX c0 f0
    go_wp2_with fail
    refine (rowMirrored _ _ _ _ _ js x HR1.out HN.out (by omega) h8).mono ?_
    rintro e w2 ⟨rfl, hrm, hb2⟩
    have hb12 := HBX.out.trans (hb2.mono HBX.out.size)
    have c2 := cell_kept C0.out hb12
    have f2 : w2.frozen? ⟨w.heap.size + 1, 0, none⟩ = false := (hb12.frozen (p := ⟨w.heap.size + 1, 0, none⟩) l1).trans F0.out
    have HB2 := Lib.hid (HB1.out.trans (hb12.mono HB1.out.size))
    have hgm : w.heap.size + 1 < (w1.alloc (.cells #[.slice (some ⟨g, 0, none⟩) n cap, .slice (some ⟨sg, 0, none⟩) (n - 1) sc] 53)).heap.size := by simp; omega
    generalize hW : (w1.alloc (.cells #[.slice (some ⟨g, 0, none⟩) n cap, .slice (some ⟨sg, 0, none⟩) (n - 1) sc] 53)).heap.size = gm at *
    have HRM := Lib.hid hrm
    have HLM := Lib.hid (show (mirJs js x).length = n by rw [mirJs_length]; exact HN.out)
    have C2 := Lib.hid c2
    have F2 := Lib.hid f2
    have l2 := cell_block_lt c2
    dsimp only at l2
    clear hb2 hb12 hrm C0 F0 HBX HR1 c2 f2 hW
    go_wp2_with fail
    have hbY : Below w2.heap.size w2 (w2.alloc (.cells #[.slice (some ⟨gm, 0, none⟩) n n] 26)) := (Below.refl _ _).alloc (Nat.le_refl _) _
    have HBY := Lib.hid hbY
    have hcY : (w2.alloc (.cells #[.slice (some ⟨gm, 0, none⟩) n n] 26)).cell? ⟨w2.heap.size, 0, none⟩ = some (.slice (some ⟨gm, 0, none⟩) n n) := by go_simp
    have HCY := Lib.hid hcY
    have HRY := Lib.hid (HRM.out.below hbY)
    clear hbY hcY
    refine (implArchOk _ _ _ _ _ (mirJs js x) HRY.out HLM.out).mono ?_
    rintro e w3 ⟨rfl, hb3⟩
    have hb13 := HBY.out.trans (hb3.mono HBY.out.size)
    have c3 := cell_kept C2.out hb13
    have f3 : w3.frozen? ⟨w.heap.size + 1, 0, none⟩ = false := (hb13.frozen (p := ⟨w.heap.size + 1, 0, none⟩) l2).trans F2.out
    have y3 := cell_kept HCY.out hb3
    have HR3 := Lib.hid (HRY.out.below hb3)
    have HB3 := Lib.hid (HB2.out.trans (hb13.mono HB2.out.size))
    clear hb3 hb13 C2 F2 HCY HBY HRY
    cases hm : archV (mirJs js x)
    · have ho : mirOk js x = false := by unfold mirOk; rw [hm]; simp
      have HOK := Lib.hid ho
      clear ho hm
      go_wp2_with fail
      refine bodyPost_ret (v := .tuple #[.agg #[.slice none 0 0], .bool false]) (by simp [results, Tryd.results8, go_sem, c3]) rfl ⟨.slice none 0 0, by rw [HOK.out], by rw [mirAV_no HOK.out]; exact JRow.nil _ _, ?_⟩
      exact HB3.out.setCell (p := ⟨w.heap.size + 1, 0, none⟩) (by show w.heap.size ≤ w.heap.size + 1; omega) _
    · have ho : mirOk js x = true := by unfold mirOk; rw [hm, H.out]; rfl
      have HOK := Lib.hid ho
      clear ho hm
      go_wp2_with fail
      refine bodyPost_ret (v := .tuple #[.agg #[.slice (some ⟨gm, 0, none⟩) n n], .bool true]) (by simp [results, Tryd.results8, go_sem, c3]) rfl ⟨.slice (some ⟨gm, 0, none⟩) n n, by rw [HOK.out], ?_, ?_⟩
      · rw [mirAV_yes HOK.out]
        have h1 : JRow w3 gm (.slice (some ⟨gm, 0, none⟩) n n) (mirJs js x) := by have := HR3.out.row; rw [HLM.out] at this; exact this
        exact owns_base (B := gm) (B' := w.heap.size) (ownsRow_setCell_other h1 (a := ⟨w.heap.size + 1, 0, none⟩) (fun he => by simp [Value.ownBlock] at he; omega) _) (by omega)
      · exact HB3.out.setCell (p := ⟨w.heap.size + 1, 0, none⟩) (by show w.heap.size ≤ w.heap.size + 1; omega) _
end Go.Proofs.YtggkodhfhhjihaaDoor
