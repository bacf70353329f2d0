/- The contracts of MirrorStone, the program's and the model's. -/
import Derived.Test.YtkplhljpaflgdaaDoorStoneI
import Derived.Test.YtkplhljpaflgdaaDoorStoneS
import Derived.Test.YtkplhljpaflgdaaDoorStoneL
import Derived.Deep.AppendLies
namespace Go.Proofs.YtkplhljpaflgdaaDoor
open Go.ChangeShapes Go.WideShapes Go.ChangeAt Go.RowKit

/-- The image of a corner. -/
def mirP (x : Int) (p : Int × Int) : Int × Int := (mirX p.1 p.2 x, p.2)
/-- The images of the first k corners, in reverse order. -/
def mirUp (cs : List (Int × Int)) (x : Int) (k : Nat) : List (Int × Int) := ((cs.take k).map (mirP x)).reverse
/-- The images of all corners, in reverse order. -/
def mirL (cs : List (Int × Int)) (x : Int) : List (Int × Int) := (cs.map (mirP x)).reverse
/-- What MirrorStone answers: the corners. -/
def mirV (cs : List (Int × Int)) (x : Int) : List (Int × Int) := if stoneV cs then (if stoneV (mirL cs x) then mirL cs x else []) else []
theorem mirL_length (cs : List (Int × Int)) (x : Int) : (mirL cs x).length = cs.length := by simp [mirL]
theorem mirUp_all (cs : List (Int × Int)) (x : Int) : mirUp cs x cs.length = mirL cs x := by simp [mirUp, mirL]
theorem pt_get {cs : List (Int × Int)} {k : Nat} (h : k < cs.length) : pt cs k = cs[k] := by unfold pt; rw [List.getD_eq_getElem?_getD, List.getElem?_eq_getElem h]; rfl
theorem mirUp_next (cs : List (Int × Int)) (x : Int) (k : Nat) (h : k < cs.length) : mirUp cs x (k + 1) = mirP x (pt cs k) :: mirUp cs x k := by
  unfold mirUp
  rw [List.take_succ_eq_append_getElem h, List.map_append, List.reverse_append, pt_get h]
  rfl
theorem mirUp_length (cs : List (Int × Int)) (x : Int) (k : Nat) (h : k ≤ cs.length) : (mirUp cs x k).length = k := by simp [mirUp]; omega
/-- The row as far as it has been filled from its end. -/
def flatUp (cs : List (Int × Int)) (x : Int) (k : Nat) : List Value := List.replicate ((cs.length - k) * 2) (.int .i64 0) ++ flat (mirUp cs x k)
theorem flatUp_zero (cs : List (Int × Int)) (x : Int) : flatUp cs x 0 = List.replicate (cs.length * 2) (.int .i64 0) := by simp [flatUp, mirUp, flat_nil]
theorem flatUp_end (cs : List (Int × Int)) (x : Int) : flatUp cs x cs.length = flat (mirL cs x) := by simp [flatUp, mirUp_all]
theorem flatUp_at (cs : List (Int × Int)) (x : Int) (k : Nat) (h : k < cs.length) : (flatUp cs x k)[(cs.length - 1 - k) * 2]? = some (.int .i64 0) ∧ (flatUp cs x k)[(cs.length - 1 - k) * 2 + 1]? = some (.int .i64 0) := by
  unfold flatUp
  rw [List.getElem?_append_left (by simp; omega), List.getElem?_append_left (by simp; omega), List.getElem?_replicate, List.getElem?_replicate, if_pos (by omega), if_pos (by omega)]
  exact ⟨rfl, rfl⟩
theorem flatUp_next (cs : List (Int × Int)) (x : Int) (k : Nat) (h : k < cs.length) :
    ((flatUp cs x k).set ((cs.length - 1 - k) * 2) (.int .i64 (mirP x (pt cs k)).1)).set ((cs.length - 1 - k) * 2 + 1) (.int .i64 (mirP x (pt cs k)).2) = flatUp cs x (k + 1) := by
  unfold flatUp
  rw [show (cs.length - k) * 2 = (cs.length - 1 - k) * 2 + 2 by omega, ← List.replicate_append_replicate, List.append_assoc]
  have hl : (List.replicate ((cs.length - 1 - k) * 2) (Value.int .i64 0)).length = (cs.length - 1 - k) * 2 := by simp
  rw [List.set_append_right _ _ (by omega), hl, Nat.sub_self, List.set_append_right _ _ (by omega), hl, show (cs.length - 1 - k) * 2 + 1 - (cs.length - 1 - k) * 2 = 1 by omega]
  rw [mirUp_next cs x k h, flat_cons, show cs.length - (k + 1) = cs.length - 1 - k by omega]
  rfl
/-- The model's list after the corners from m on. -/
def mirTo (cs : List (Int × Int)) (x : Int) (m : Nat) : List (Int × Int) := ((cs.drop m).map (mirP x)).reverse
theorem mirTo_all (cs : List (Int × Int)) (x : Int) : mirTo cs x 0 = mirL cs x := by simp [mirTo, mirL]
theorem mirTo_end (cs : List (Int × Int)) (x : Int) : mirTo cs x cs.length = [] := by simp [mirTo]
theorem mirTo_next (cs : List (Int × Int)) (x : Int) (m : Nat) (h : m < cs.length) : mirTo cs x m = mirTo cs x (m + 1) ++ [mirP x (pt cs m)] := by
  unfold mirTo
  rw [List.drop_eq_getElem_cons h, List.map_cons, List.reverse_cons, pt_get h]
theorem mirTo_length (cs : List (Int × Int)) (x : Int) (m : Nat) : (mirTo cs x m).length = cs.length - m := by simp [mirTo]

theorem owns_after {w w' : World} {B n size k : Nat} {e : TypeId} {v : Value} {xs : List Value} (h : w.ownsRow B e size v n xs) (hb : Below (w.drewN k).heap.size (w.drewN k) w') : w'.ownsRow B e size v n xs := owns_below (w := w.drewN k) h hb
theorem owns_lt {w : World} {B g cap n size : Nat} {e : TypeId} {xs : List Value} (h : w.ownsRow B e size (.slice (some ⟨g, 0, none⟩) n cap) n xs) : B ≤ g ∧ g < w.heap.size := by
  rcases h.2 with ⟨h', _⟩ | ⟨g', cap', cur, h', hB, hg, _⟩
  · simp at h'
  · simp at h'; obtain ⟨rfl, -⟩ := h'; exact ⟨hB, (Array.getElem?_eq_some_iff.1 hg).1⟩
/-- The image of a stone was handed back, in new memory; what was there is as it was. -/
def MirAns (cs : List (Int × Int)) (x : Int) (w : World) (e : Ending) (w' : World) : Prop :=
  ∃ u, e = .returned (.agg #[u]) ∧ Row w' w.heap.size u (mirV cs x) ∧ Below w.heap.size w w'

set_option maxHeartbeats 1000000 in
theorem implMirrorStone (w : World) (B : Nat) (v : Value) (cs : List (Int × Int)) (x : Int) (hr : Row w B v cs) :
    Calls Tryd.prog 9 #[.agg #[v], .int .i64 x] w (MirAns cs x w) := by
  have HR := Lib.hid hr
  obtain ⟨a, cap, hv, hm⟩ := row_sliceS hr
  generalize hN : cs.length = n at hv hm
  subst hv
  clear hr
  have hb0 := ((Below.refl w.heap.size w).alloc (by simp <;> omega) (.cells #[.slice a n cap] 26) |>.alloc (by simp <;> omega) (.cells #[.slice none 0 0] 26))
  have HB0 := Lib.hid hb0
  have HN := Lib.hid hN
  clear hb0 hN
  cases hs : stoneV cs
  · have hz : mirV cs x = [] := by unfold mirV; rw [hs]; rfl
    have HZ := Lib.hid hz
    clear hz
    go_enter Tryd.func9, Tryd.ntmps9
    go_wp2_with fail
    refine (implStoneOk _ B _ cs (HR.out.below HB0.out)).mono ?_
    rintro e w1 ⟨rfl, hb1⟩
    rw [hs]
    obtain ⟨hc1, hf1⟩ := bcell hb1
    have hz : w.heap.size + 1 < w1.heap.size := by have := hb1.size; simp at this; omega
    go_wp2_with fail
    refine bodyPost_ret (v := .agg #[.slice none 0 0]) (by simp [results, Tryd.results9, go_sem, hc1]) rfl ⟨_, rfl, ?_, ?_⟩
    · rw [HZ.out]; exact Row.nil _ _
    · repeat (first | exact HB0.out.trans (hb1.mono (by simp <;> omega)) | refine Below.setCell ?_ (by simp <;> omega) _)
  · obtain ⟨g3, g6⟩ := stone_size hs
    have hval := fun i hi => stone_valid hs i hi
    rcases (HR.out.cases) with ⟨hz, hcn⟩ | ⟨g, cap', hg, r, -, hgw, hcap, hcm⟩
    · rw [hcn] at g3; simp at g3
    simp only [Value.slice.injEq] at hg
    obtain ⟨rfl, -, rfl⟩ := hg
    obtain ⟨i0, hi0, hz0, hz1, hz2⟩ := info_parts Tryd.infoPt
    rw [HN.out] at g3 g6 hcap
    unfold maxLen at hcm
    have HR1 := Lib.hid r
    have HS := Lib.hid hs
    clear r hs
    go_enter Tryd.func9, Tryd.ntmps9
    go_wp2_with fail
    refine (implStoneOk _ B _ cs (HR.out.below HB0.out)).mono ?_
    rintro e w1 ⟨rfl, hb1⟩
    rw [HS.out]
    have s1 : w1.cell? ⟨w.heap.size, 0, none⟩ = some (.slice (some ⟨g, 0, none⟩) n cap) := (hb1.cell (p := ⟨w.heap.size, 0, none⟩) (by simp; omega)).trans (by go_simp)
    have r1 : w1.cell? ⟨w.heap.size + 1, 0, none⟩ = some (.slice none 0 0) := (hb1.cell (p := ⟨w.heap.size + 1, 0, none⟩) (by simp)).trans (by go_simp)
    have f1 : w1.frozen? ⟨w.heap.size + 1, 0, none⟩ = false := (hb1.frozen (p := ⟨w.heap.size + 1, 0, none⟩) (by simp)).trans (by go_simp)
    have hb01 := HB0.out.trans (hb1.mono (by simp <;> omega))
    have hz1' : w.heap.size + 1 < w1.heap.size := cell_block_lt r1
    have HB1 := Lib.hid hb01
    have S1 := Lib.hid s1
    have R1 := Lib.hid r1
    have F1 := Lib.hid f1
    clear hb01 hb1 r1 f1
    go_wp2_with (at_make; refine wpList_make_full _ rfl _ _ 24 rfl w1.heap.size 29 i0 (.agg #[.int .i64 0, .int .i64 0]) 2 Tryd.underlying24 hi0 hz0 hz1 .i64 .i64 _ _ n rfl rfl rfl rfl (by rw [hz2]; omega) (by unfold maxLen; omega) (Nat.le_refl _) ?_; intro w2 hown2 hgrow2; have hb2 : Below w1.heap.size w1 w2 := (Below.refl _ _).grown hgrow2 (Nat.le_refl _) (fun k hk => by cases hk); have s2 := cell_kept s1 hb2; have l2 := cell_block_lt s2)
    rw [made_zero, ← HN.out, ← flatUp_zero cs x, HN.out] at hown2
    have hz2w : w1.heap.size < w2.heap.size := by
      have := (owns_lt hown2).2
      exact this
    have hbw2 := hb2
    have HO2 := Lib.hid hown2
    clear hgrow2 hb2 s1 s2 hown2
    have hix : (w2.alloc (.cells #[.slice (some ⟨w1.heap.size, 0, none⟩) n n] 26)).cell? ⟨w2.heap.size, 0, none⟩ = some (.slice (some ⟨w1.heap.size, 0, none⟩) n n) := by go_simp
    have HIX := Lib.hid hix
    have HBW := Lib.hid (hbw2.alloc hbw2.size (.cells #[.slice (some ⟨w1.heap.size, 0, none⟩) n n] 26))
    have HOW := Lib.hid (World.ownsRow.alloc HO2.out (.cells #[.slice (some ⟨w1.heap.size, 0, none⟩) n n] 26))
    clear hix hbw2
    go_loopw [22] (fun t w3 => ∃ k : Nat, k ≤ n ∧ t = .int .i64 k ∧ w3.ownsRow w1.heap.size 29 2 (.slice (some ⟨w1.heap.size, 0, none⟩) n n) n (flatUp cs x k) ∧ Below w1.heap.size w1 w3 ∧ w3.cell? ⟨w2.heap.size, 0, none⟩ = some (.slice (some ⟨w1.heap.size, 0, none⟩) n n))
      (fun t _ => n - (intOf t).toNat)
    case atStart => exact ⟨0, Nat.zero_le _, rfl, HOW.out, HBW.out, HIX.out⟩
    case round =>
      clear HIX HBW HOW
      obtain ⟨k, hk, rfl, hown, hbw, hix⟩ := hrel
      have HO := Lib.hid hown
      have HB := Lib.hid hbw
      have HI := Lib.hid hix
      have hlN := HN.out
      have lix := cell_block_lt hix
      by_cases hlt : k < n
      · obtain ⟨a0, a1⟩ := (HR1.out.below (HB1.out.trans (hbw.mono HB1.out.size))).cells k (by omega)
        have hM := flatUp_next cs x k (by omega)
        have hAT := flatUp_at cs x k (by omega)
        obtain ⟨j, hj⟩ : ∃ j : Nat, j = n - 1 - k := ⟨_, rfl⟩
        rw [hlN, ← hj] at hAT hM
        have HAT := Lib.hid hAT
        have HM := Lib.hid hM
        obtain ⟨⟨px, py⟩, ep⟩ : ∃ p, pt cs k = p := ⟨_, rfl⟩
        rw [ep] at a0 a1
        have EP := Lib.hid ep
        have hgl : g < wr.heap.size := by have := (HB1.out.trans (hbw.mono HB1.out.size)).size; omega
        have hjn : j < n := by omega
        have hj0 : (0 : Int) ≤ (j : Int) := Int.natCast_nonneg _
        have hj1 : (j : Int) < (n : Int) := by omega
        have e2 : IntKind.i64.wrap ((n : Int) - 1 - (k : Int)) = (j : Int) := by rw [IntWalk.i64_in _ (by omega)]; omega
        have e1 : IntKind.i64.wrap ((n : Int) - 1) = (n : Int) - 1 := IntWalk.i64_in _ (by omega)
        clear hown hbw hix hAT hM ep hlN hj
        go_wp2_with fail
        have n1 := Nat.ne_of_lt lix
        have n2 := Nat.ne_of_lt hz2w
        have n3 := Nat.ne_of_gt hz2w
        have n4 := Nat.ne_of_gt (Nat.lt_trans hz2w lix)
        have n5 := Nat.ne_of_lt (Nat.lt_trans hz2w lix)
        have p0 : (wr.alloc (.cells #[.int .i64 px, .int .i64 py] 29)).cell? ⟨wr.heap.size, 0, none⟩ = some (.int .i64 px) := by go_simp
        have p1 : (wr.alloc (.cells #[.int .i64 px, .int .i64 py] 29)).cell? ⟨wr.heap.size, 1, none⟩ = some (.int .i64 py) := by go_simp
        have q0 : (wr.alloc (.cells #[.int .i64 px, .int .i64 py] 29)).cell? ⟨w2.heap.size, 0, none⟩ = some (.slice (some ⟨w1.heap.size, 0, none⟩) n n) := by rw [World.cell?_alloc_lt _ _ _ (by simpa using lix)]; exact HI.out
        have HB3 := Lib.hid (HB.out.alloc HB.out.size (.cells #[.int .i64 px, .int .i64 py] 29))
        have HO3 := Lib.hid (World.ownsRow.alloc HO.out (.cells #[.int .i64 px, .int .i64 py] 29))
        go_region_held3 (fun w' => w'.cell? ⟨wr.heap.size, 0, none⟩ = some (.int .i64 px) ∧ w'.cell? ⟨wr.heap.size, 1, none⟩ = some (.int .i64 py) ∧ w'.cell? ⟨w2.heap.size, 0, none⟩ = some (.slice (some ⟨w1.heap.size, 0, none⟩) n n))
          (first | go_keep | trivial)
          (first | (go_at_call 21
                    refine (implMirrorPoint _ _ _ _).mono ?_
                    rintro e w4 ⟨rfl, hb4⟩
                    have p4 : w4.cell? ⟨wr.heap.size, 0, none⟩ = some (.int .i64 px) := cell_after p0 hb4
                    have p5 : w4.cell? ⟨wr.heap.size, 1, none⟩ = some (.int .i64 py) := cell_after p1 hb4
                    have q4 : w4.cell? ⟨w2.heap.size, 0, none⟩ = some (.slice (some ⟨w1.heap.size, 0, none⟩) n n) := cell_after q0 hb4
                    have ho4 := owns_after HO3.out hb4
                    have c0 : w4.cell? ⟨w1.heap.size, j * 2, none⟩ = some (.int .i64 0) := (World.ownsRow.cellAt ho4 (j * 2) (by omega)).trans (HAT.out.1)
                    have c1 : w4.cell? ⟨w1.heap.size, j * 2 + 1, none⟩ = some (.int .i64 0) := (World.ownsRow.cellAt ho4 (j * 2 + 1) (by omega)).trans (HAT.out.2)
                    have f0 : w4.frozen? ⟨w1.heap.size, j * 2, none⟩ = false := World.ownsRow.frozenAt ho4 (j * 2)
                    have f1 : w4.frozen? ⟨w1.heap.size, j * 2 + 1, none⟩ = false := World.ownsRow.frozenAt ho4 (j * 2 + 1)
                    have HB4 := Lib.hid (below_after HB3.out hb4)
                    have HO4 := Lib.hid ho4
                    clear ho4 hb4))
        have hM : ((flatUp cs x k).set (j * 2) (.int .i64 (mirX px py x))).set (j * 2 + 1) (.int .i64 py) = flatUp cs x (k + 1) := by
          have := HM.out
          rw [EP.out] at this
          exact this
        have ho6 := (World.ownsRow.stored (World.ownsRow.stored HO4.out (j * 2) (.int .i64 (mirX px py x))).1 (j * 2 + 1) (.int .i64 py)).1
        rw [hM] at ho6
        have q6 : ((w4.setCell ⟨w1.heap.size, j * 2, none⟩ (.int .i64 (mirX px py x))).setCell ⟨w1.heap.size, j * 2 + 1, none⟩ (.int .i64 py)).cell? ⟨w2.heap.size, 0, none⟩ = some (.slice (some ⟨w1.heap.size, 0, none⟩) n n) := by go_simp
        have HO6 := Lib.hid ho6
        have HQ6 := Lib.hid q6
        have HB6 := Lib.hid ((HB4.out.setCell (p := ⟨w1.heap.size, j * 2, none⟩) (Nat.le_refl _) (.int .i64 (mirX px py x))).setCell (p := ⟨w1.heap.size, j * 2 + 1, none⟩) (Nat.le_refl _) (.int .i64 py))
        clear hM ho6 q6 p0 p1 q0 p4 p5 q4 c0 c1 f0 f1 e1 e2 n1 n2 n3 n4 n5 a0 a1
        go_wp2_with fail
        go_roundw
        case rel => exact ⟨k + 1, by omega, by go_num, HO6.out, HB6.out, HQ6.out⟩
        case measure => simp [intOf]; omega
      · have hkn : k = n := by omega
        rw [hkn]
        have hrow : RowAt wr w1.heap.size w1.heap.size n (mirL cs x) := by
          have := HO.out
          rw [hkn, ← HN.out, flatUp_end] at this
          show wr.ownsRow _ _ _ (.slice _ (mirL cs x).length n) _ _
          rw [mirL_length, ← HN.out]
          exact this
        have HW := Lib.hid hrow
        have HLM := Lib.hid (mirL_length cs x)
        have hbs : wr.cell? ⟨w.heap.size + 1, 0, none⟩ = some (.slice none 0 0) := cell_kept R1.out hbw
        have hfs : wr.frozen? ⟨w.heap.size + 1, 0, none⟩ = false := (hbw.frozen (p := ⟨w.heap.size + 1, 0, none⟩) hz1').trans F1.out
        clear hown hbw hlN hkn hlt hk hrow
        go_wp2_with fail
        refine (implStoneOk _ _ _ (mirL cs x) (by have := HW.out.row; rw [HLM.out, HN.out] at this; exact this)).mono ?_
        rintro e w5 ⟨rfl, hb5⟩
        have i5 := cell_kept hix hb5
        have r5 := cell_kept hbs hb5
        have f5 : w5.frozen? ⟨w.heap.size + 1, 0, none⟩ = false := (hb5.frozen (p := ⟨w.heap.size + 1, 0, none⟩) (cell_block_lt hbs)).trans hfs
        have HW5 := Lib.hid (HW.out.below hb5)
        have HB5 := Lib.hid (HB1.out.trans ((HB.out.trans (hb5.mono HB.out.size)).mono HB1.out.size))
        have n1 : w.heap.size + 1 ≠ w1.heap.size := Nat.ne_of_lt hz1'
        clear hb5 hix hbs hfs
        cases hm2 : stoneV (mirL cs x)
        · have hz : mirV cs x = [] := by unfold mirV; rw [HS.out, hm2]; rfl
          have HZ := Lib.hid hz
          clear hz hm2
          go_wp2_with fail
          refine bodyPost_ret (v := .agg #[.slice none 0 0]) (by simp [results, Tryd.results9, go_sem, r5]) rfl ⟨_, rfl, ?_, ?_⟩
          · rw [HZ.out]; exact Row.nil _ _
          · exact HB5.out.setCell (p := ⟨w.heap.size + 1, 0, none⟩) (Nat.le_succ _) _
        · have hz : mirV cs x = mirL cs x := by unfold mirV; rw [HS.out, hm2]; rfl
          have HZ := Lib.hid hz
          clear hz hm2
          go_wp2_with fail
          refine bodyPost_ret (v := .agg #[.slice (some ⟨w1.heap.size, 0, none⟩) n n]) (by simp [results, Tryd.results9, go_sem, r5]) rfl ⟨_, rfl, ?_, ?_⟩
          · rw [HZ.out]
            have := ((HW5.out.base (B' := w.heap.size) (by omega)).setCell (w.heap.size + 1) 0 n1 (.slice (some ⟨w1.heap.size, 0, none⟩) n n)).row
            rw [HLM.out, HN.out] at this
            exact this
          · exact HB5.out.setCell (p := ⟨w.heap.size + 1, 0, none⟩) (Nat.le_succ _) _
end Go.Proofs.YtkplhljpaflgdaaDoor
