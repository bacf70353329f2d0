/- The contracts of StoneText, the program's and the model's. -/
import Derived.Test.YtkplhljpaflgdaaDoorStoneI
import Derived.Test.YtkplhljpaflgdaaDoorStoneS
import Derived.Test.YtkplhljpaflgdaaDoorPtTextC
import Derived.Test.YtkplhljpaflgdaaDoorShelf
import Derived.Lib.Join
namespace Go.Proofs.YtkplhljpaflgdaaDoor
open Go.ChangeShapes Go.WideShapes Go.ChangeAt Go.RowKit

/-- The texts of points, joined by a space. -/
def joinB (l : List ByteArray) : ByteArray := ⟨(Lib.join (l.map (·.data.toList)) [32]).toArray⟩
def textB (cs : List (Int × Int)) : List ByteArray := cs.map fun p => ptTextV p.1 p.2
/-- What StoneText answers. -/
def stTextV (cs : List (Int × Int)) : ByteArray := if stoneV cs then joinB (textB cs) else ⟨#[]⟩
theorem ptText_size (x y : Int) : (ptTextV x y).size ≤ 41 := by
  cases h : okP x y
  · rw [ptTextV_no h]; exact Nat.zero_le _
  · unfold ptTextV
    rw [if_pos h]
    have r := okP_iff.1 h
    have h1 := itoa_len (n := x) (by omega) (by omega)
    have h2 := itoa_len (n := y) (by omega) (by omega)
    show (ptText x y).toArray.size ≤ 41
    unfold ptText
    simp <;> omega
theorem strOf_toList (b : ByteArray) : strOf b.data.toList = b := by cases b; simp
theorem nil_app (T : ByteArray) : (⟨#[]⟩ : ByteArray) ++ T = T := by cases T; rw [ByteArray.mk_append_mk]; simp
theorem joinB_nil : joinB [] = ⟨#[]⟩ := rfl
theorem joinB_one (x : ByteArray) : joinB [x] = x := by
  unfold joinB
  rw [List.map_cons, List.map_nil, Lib.join_one]
theorem joinTail_snoc (sep : List UInt8) (r : List (List UInt8)) (x : List UInt8) : Lib.joinTail sep (r ++ [x]) = Lib.joinTail sep r ++ (sep ++ x) := by simp [Lib.joinTail]
theorem joinB_snoc (l : List ByteArray) (x : ByteArray) (h : l ≠ []) : joinB (l ++ [x]) = joinB l ++ strOf [32] ++ x := by
  cases l with
  | nil => exact absurd rfl h
  | cons y r =>
    unfold joinB
    rw [List.cons_append, List.map_cons, List.map_append, List.map_cons, List.map_nil, List.map_cons, Lib.join_cons, Lib.join_cons, joinTail_snoc, ← List.append_assoc]
    show strOf _ = strOf _ ++ strOf [32] ++ x
    rw [← str_append, ← str_append y.data.toList, ← str_append [32], strOf_toList x]
    simp only [ByteArray.append_assoc]
theorem lens_le (l : List ByteArray) (c : Nat) (h : ∀ x ∈ l, x.size ≤ c) : Lib.lens (l.map (·.data.toList)) ≤ c * l.length := by
  induction l with
  | nil => simp [Lib.lens]
  | cons y r ih =>
    have h1 := h y (by simp)
    have h2 := ih fun x hx => h x (by simp [hx])
    simp only [Lib.lens, List.map_cons, List.sum_cons, List.length_cons] at h2 ⊢
    have h3 : y.data.toList.length = y.size := by cases y; simp [ByteArray.size]
    rw [Nat.mul_succ]
    omega
theorem join_bd (l : List ByteArray) (h : ∀ x ∈ l, x.size ≤ 41) : (Lib.join (l.map (·.data.toList)) [32]).length ≤ 42 * l.length := by
  have hl := lens_le l 41 h
  cases l with
  | nil => simp [Lib.join_nil]
  | cons y r =>
    rw [List.map_cons, Lib.join_length]
    rw [List.map_cons] at hl
    simp only [List.length_cons, List.length_map, List.length_nil] at hl ⊢
    omega
theorem joinB_size (l : List ByteArray) (h : ∀ x ∈ l, x.size ≤ 41) : (joinB l).size ≤ 42 * l.length := by
  have := join_bd l h
  unfold joinB
  simpa [ByteArray.size] using this
theorem textB_size (cs : List (Int × Int)) : ∀ x ∈ textB cs, x.size ≤ 41 := by
  intro x hx
  obtain ⟨p, -, rfl⟩ := List.mem_map.1 hx
  exact ptText_size _ _
theorem textB_next (cs : List (Int × Int)) (k : Nat) (h : k < cs.length) : textB (cs.take (k + 1)) = textB (cs.take k) ++ [ptTextV (pt cs k).1 (pt cs k).2] := by
  unfold textB
  have : pt cs k = cs[k] := by unfold pt; rw [List.getD_eq_getElem?_getD, List.getElem?_eq_getElem h]; rfl
  rw [List.take_succ_eq_append_getElem h, List.map_append, this]
  rfl
theorem textB_len (cs : List (Int × Int)) (k : Nat) (h : k ≤ cs.length) : (textB (cs.take k)).length = k := by simp [textB]; omega

set_option maxRecDepth 100000 in
set_option maxHeartbeats 1000000 in
theorem specStoneText (w : World) (B : Nat) (v : Value) (cs : List (Int × Int)) (hr : Row w B v cs) :
    Calls Tryd.prog 15 #[.agg #[v]] w fun e w' => e = .returned (.string (stTextV cs)) ∧ Below w.heap.size w w' := by
  have HR := Lib.hid hr
  obtain ⟨a, cap, hv, hm⟩ := row_sliceS hr
  generalize hN : cs.length = n at hv hm
  subst hv
  clear hr
  unfold maxLen at hm
  have hb0 := ((Below.refl w.heap.size w).alloc (by simp <;> omega) (.cells #[.slice a n cap] 26))
  have HB0 := Lib.hid hb0
  have HN := Lib.hid hN
  clear hb0 hN
  cases hs : stoneV cs
  · have hz : stTextV cs = ⟨#[]⟩ := by unfold stTextV; rw [hs]; rfl
    have HZ := Lib.hid hz
    have HS := Lib.hid hs
    clear hz hs
    go_enter Tryd.func15, Tryd.ntmps15
    go_wp2_with fail
    refine wp_loop_rounds 1 ?_
    rw [rounds_succ]
    by_cases h0 : n = 0
    · subst h0
      go_wp2_with fail
      go_ret
      exact ⟨ret_str HZ.out.symm, HB0.out⟩
    · have h1 : 0 < n := by omega
      go_wp2_with fail
      refine (specStoneOk _ B _ cs (HR.out.below HB0.out)).mono ?_
      rintro e w1 ⟨rfl, hb1⟩
      rw [HS.out]
      go_wp2_with fail
      go_ret
      exact ⟨ret_str HZ.out.symm, HB0.out.trans (hb1.mono (by simp <;> omega))⟩
  · obtain ⟨g3, g6⟩ := stone_size hs
    rcases (HR.out.cases) with ⟨hz, hcn⟩ | ⟨g, cap', hg, r, -, hgw, hcap, hcm⟩
    · rw [hcn] at g3; simp at g3
    simp only [Value.slice.injEq] at hg
    obtain ⟨rfl, -, rfl⟩ := hg
    rw [HN.out] at g3 g6 hcap
    unfold maxLen at hcm
    have HR1 := Lib.hid r
    have HS := Lib.hid hs
    have hc0 : (w.alloc (.cells #[.slice (some ⟨g, 0, none⟩) n cap] 26)).cell? ⟨w.heap.size, 0, none⟩ = some (.slice (some ⟨g, 0, none⟩) n cap) := by go_simp
    have C0 := Lib.hid hc0
    clear r hs hc0
    go_enter Tryd.func15, Tryd.ntmps15
    go_wp2_with fail
    go_loopw [3, 4] (fun q t wr => ∃ k : Nat, k ≤ n ∧ t = .int .i64 k ∧ q = .string (joinB (textB (cs.take k))) ∧ Below w.heap.size w wr ∧ wr.cell? ⟨w.heap.size, 0, none⟩ = some (.slice (some ⟨g, 0, none⟩) n cap))
      (fun _ t _ => n - (intOf t).toNat)
    case atStart => exact ⟨0, Nat.zero_le _, rfl, rfl, HB0.out, C0.out⟩
    case round =>
      clear C0
      obtain ⟨k, hk, rfl, rfl, hbw, hsw⟩ := hrel
      have HB := Lib.hid hbw
      have hlN := HN.out
      by_cases hlt : k < n
      · have hr2 := HR1.out.below hbw
        have hrow : Row wr B (.slice (some ⟨g, 0, none⟩) n cap) cs := by have := hr2.row; rw [hlN] at this; exact this
        have HRW := Lib.hid hrow
        have HR2 := Lib.hid hr2
        have htl := textB_len cs k (by omega)
        have hsz := joinB_size (textB (cs.take k)) (textB_size _)
        rw [htl] at hsz
        have hnx := textB_next cs k (by omega)
        have hne : 0 < k → joinB (textB (cs.take (k + 1))) = joinB (textB (cs.take k)) ++ strOf [32] ++ ptTextV (pt cs k).1 (pt cs k).2 := fun h => by
          rw [hnx, joinB_snoc _ _ (by intro hh; rw [hh] at htl; simp at htl; omega)]
        have he0 : k = 0 → joinB (textB (cs.take (k + 1))) = ptTextV (pt cs k).1 (pt cs k).2 := fun h => by subst h; rw [hnx]; exact joinB_one _
        have hpz := ptText_size (pt cs k).1 (pt cs k).2
        have HNE := Lib.hid hne
        have he1 : k = 0 → RowKit.Hid (joinB (textB (cs.take (k + 1))) = ptTextV (pt cs k).1 (pt cs k).2) := fun h => Lib.hid (he0 h)
        have HE0 := Lib.hid he1
        have hbs := cell_block_lt hsw
        clear hrow hr2 hbw hlN htl hnx hne he0 he1
        by_cases hk0 : k = 0
        · have HE := HE0.out hk0
          subst hk0
          rw [show joinB (textB (cs.take 0)) = ⟨#[]⟩ from rfl]
          go_wp2_with fail
          refine (specStoneOk _ B _ cs HRW.out).mono ?_
          rintro e w1 ⟨rfl, hb1⟩
          rw [HS.out]
          obtain ⟨a0, a1⟩ := (HR2.out.below hb1).cells 0 (by have := HN.out; omega)
          rw [Nat.zero_mul] at a0 a1
          rw [Nat.zero_add] at a1
          have s1 := cell_kept hsw hb1
          have HB1 := Lib.hid (HB.out.trans (hb1.mono HB.out.size))
          clear hb1 hsw
          go_wp2_with fail
          refine (specPointText _ _ _).mono ?_
          rintro e w2 ⟨rfl, hb2⟩
          generalize ptTextV (pt cs 0).1 (pt cs 0).2 = T at *
          have HS2 := Lib.hid (cell_kept s1 hb2)
          have HB2 := Lib.hid (HB1.out.trans (hb2.mono HB1.out.size))
          clear hb2 s1 a0 a1
          go_wp2_with fail
          go_roundw
          case rel => exact ⟨1, by omega, by go_num, by rw [HE.out]; simp [nil_app], HB2.out, HS2.out⟩
          case measure => simp [intOf]; omega
        · have hkp : (0 : Int) < (k : Int) := by omega
          have HE := Lib.hid (HNE.out (by omega))
          generalize joinB (textB (cs.take k)) = J at *
          go_wp2_with fail
          refine (specStoneOk _ B _ cs HRW.out).mono ?_
          rintro e w1 ⟨rfl, hb1⟩
          rw [HS.out]
          obtain ⟨a0, a1⟩ := (HR2.out.below hb1).cells k (by have := HN.out; omega)
          have s1 := cell_kept hsw hb1
          have HB1 := Lib.hid (HB.out.trans (hb1.mono HB.out.size))
          clear hb1 hsw
          go_wp2_with fail
          refine (specPointText _ _ _).mono ?_
          rintro e w2 ⟨rfl, hb2⟩
          generalize ptTextV (pt cs k).1 (pt cs k).2 = T at *
          have HS2 := Lib.hid (cell_kept s1 hb2)
          have HB2 := Lib.hid (HB1.out.trans (hb2.mono HB1.out.size))
          clear hb2 s1 a0 a1
          go_wp2_with fail
          go_roundw
          case rel => exact ⟨k + 1, by omega, by go_num, by rw [HE.out], HB2.out, HS2.out⟩
          case measure => simp [intOf]; omega
      · have hkn : k = n := by omega
        rw [hkn]
        have hall : stTextV cs = joinB (textB (cs.take n)) := by unfold stTextV; rw [HS.out, ← hlN, List.take_length]; rfl
        have HAL := Lib.hid hall
        clear hbw hlN hkn hlt hk hall
        go_wp2_with fail
        go_ret
        exact ⟨ret_str HAL.out.symm, HB.out⟩

theorem Tryd.infoStr : (Tryd.prog.info? 9).map (fun i => (i.zero, i.size, i.bytes)) = some (some (.string ByteArray.empty), 1, 16) := by kernel_rfl
/-- The texts as far as they have been written. -/
def filled (cs : List (Int × Int)) (k : Nat) : List Value := (textB (cs.take k)).map Value.string ++ List.replicate (cs.length - k) (.string ByteArray.empty)
theorem made_str (cs : List (Int × Int)) : (madeCells (Value.string ByteArray.empty).cells (cs.length * 1)).toList = filled cs 0 := by
  rw [Nat.mul_one]
  exact toList_madeCells_one _ _
theorem filled_at (cs : List (Int × Int)) (k : Nat) (h : k < cs.length) : (filled cs k)[k]? = some (.string ByteArray.empty) := by
  unfold filled
  rw [List.getElem?_append_right (by simp [textB_len cs k (by omega)]), List.length_map, textB_len cs k (by omega), Nat.sub_self, List.getElem?_replicate, if_pos (by omega)]
theorem filled_next (cs : List (Int × Int)) (k : Nat) (h : k < cs.length) : (filled cs k).set k (.string (ptTextV (pt cs k).1 (pt cs k).2)) = filled cs (k + 1) := by
  have hl := textB_len cs k (by omega)
  unfold filled
  rw [show cs.length - k = (cs.length - (k + 1)) + 1 by omega, List.replicate_succ, List.set_append_right _ _ (by simp [hl]), List.length_map, hl, Nat.sub_self, List.set_cons_zero, textB_next cs k h, List.map_append, List.append_assoc]
  rfl
theorem filled_end (cs : List (Int × Int)) : filled cs cs.length = (textB cs).map Value.string := by simp [filled]

set_option maxRecDepth 100000 in
set_option maxHeartbeats 1000000 in
theorem implStoneText (w : World) (B : Nat) (v : Value) (cs : List (Int × Int)) (hr : Row w B v cs) (hT : Tens w) :
    Calls Tryd.prog 12 #[.agg #[v]] w fun e w' => e = .returned (.string (stTextV cs)) ∧ Below w.heap.size w w' := by
  have HT := Lib.hid hT
  have HR := Lib.hid hr
  obtain ⟨a, cap, hv, hm⟩ := row_sliceS hr
  generalize hN : cs.length = n at hv hm
  subst hv
  clear hr hT
  unfold maxLen at hm
  have hb0 := ((Below.refl w.heap.size w).alloc (by simp <;> omega) (.cells #[.slice a n cap] 26))
  have HB0 := Lib.hid hb0
  have HN := Lib.hid hN
  clear hb0 hN
  cases hs : stoneV cs
  · have hz : stTextV cs = ⟨#[]⟩ := by unfold stTextV; rw [hs]; rfl
    have HZ := Lib.hid hz
    clear hz
    go_enter Tryd.func12, Tryd.ntmps12
    go_wp2_with fail
    refine (implStoneOk _ B _ cs (HR.out.below HB0.out)).mono ?_
    rintro e w1 ⟨rfl, hb1⟩
    rw [hs]
    go_wp2_with fail
    go_ret
    exact ⟨ret_str HZ.out.symm, HB0.out.trans (hb1.mono (by simp <;> omega))⟩
  · obtain ⟨g3, g6⟩ := stone_size hs
    rcases (HR.out.cases) with ⟨hz, hcn⟩ | ⟨g, cap', hg, r, -, hgw, hcap, hcm⟩
    · rw [hcn] at g3; simp at g3
    simp only [Value.slice.injEq] at hg
    obtain ⟨rfl, -, rfl⟩ := hg
    rw [HN.out] at g3 g6 hcap
    unfold maxLen at hcm
    obtain ⟨i0, hi0, hz0, hz1, hz2⟩ := info_parts Tryd.infoStr
    have HR1 := Lib.hid r
    have HS := Lib.hid hs
    clear r hs
    go_enter Tryd.func12, Tryd.ntmps12
    go_wp2_with fail
    refine (implStoneOk _ B _ cs (HR.out.below HB0.out)).mono ?_
    rintro e w1 ⟨rfl, hb1⟩
    rw [HS.out]
    have s1 : w1.cell? ⟨w.heap.size, 0, none⟩ = some (.slice (some ⟨g, 0, none⟩) n cap) := (hb1.cell (p := ⟨w.heap.size, 0, none⟩) (by simp)).trans (by go_simp)
    have hb01 := HB0.out.trans (hb1.mono (by simp <;> omega))
    have HB1 := Lib.hid hb01
    clear hb01 hb1
    go_wp2_with (at_make; refine wpList_make_full _ rfl _ _ 55 rfl w1.heap.size 9 i0 (.string ByteArray.empty) 1 Tryd.underlying55 hi0 hz0 hz1 .i64 .i64 _ _ n rfl rfl rfl rfl (by rw [hz2]; omega) (by unfold maxLen; omega) (Nat.le_refl _) ?_; intro w2 hown2 hgrow2; have hb2 : Below w1.heap.size w1 w2 := (Below.refl _ _).grown hgrow2 (Nat.le_refl _) (fun k hk => by cases hk); have s2 := cell_kept s1 hb2; have l2 := cell_block_lt s2)
    have hb02 := HB1.out.trans (hb2.mono HB1.out.size)
    have HB2 := Lib.hid hb02
    have hz2w : w1.heap.size < w2.heap.size := (World.ownsRow.lt hown2 _ rfl).2
    rw [show (madeCells (Value.string ByteArray.empty).cells (n * 1)).toList = filled cs 0 by rw [← HN.out]; exact made_str cs] at hown2
    have HO2 := Lib.hid hown2
    have S2 := Lib.hid s2
    clear hgrow2 hb2 s1 s2 hown2 hb02
    go_loopw [16] (fun t wr => ∃ k : Nat, k ≤ n ∧ t = .int .i64 k ∧ wr.ownsRow w1.heap.size 9 1 (.slice (some ⟨w1.heap.size, 0, none⟩) n n) n (filled cs k) ∧ Below w.heap.size w wr)
      (fun t _ => n - (intOf t).toNat)
    case atStart => exact ⟨0, Nat.zero_le _, rfl, HO2.out, HB2.out⟩
    case round =>
      clear HO2 HB2 S2
      obtain ⟨k, hk, rfl, hown, hbw⟩ := hrel
      have hlN := HN.out
      have HO := Lib.hid hown
      have HB := Lib.hid hbw
      have hgr := (World.ownsRow.lt hown _ rfl).2
      by_cases hlt : k < n
      · obtain ⟨a0, a1⟩ := (HR1.out.below hbw).cells k (by omega)
        have hgl : g < wr.heap.size := by have := hbw.size; omega
        have hF := filled_next cs k (by omega)
        have hA := filled_at cs k (by omega)
        have HF := Lib.hid hF
        have HA := Lib.hid hA
        have hpz := ptText_size (pt cs k).1 (pt cs k).2
        clear hown hbw hlN hF hA
        go_wp2_with fail
        refine (implPointText _ _ _ (HT.out.below (HB.out.alloc HB.out.size _))).mono ?_
        rintro e w3 ⟨rfl, hb3⟩
        have ho3 := owns_below (World.ownsRow.alloc HO.out (.cells #[.int .i64 (pt cs k).1, .int .i64 (pt cs k).2] 29)) hb3
        have c0 : w3.cell? ⟨w1.heap.size, k, none⟩ = some (.string ByteArray.empty) := (World.ownsRow.cellAt ho3 k (by omega)).trans HA.out
        have f0 : w3.frozen? ⟨w1.heap.size, k, none⟩ = false := World.ownsRow.frozenAt ho3 k
        have ho4 := (World.ownsRow.stored ho3 k (.string (ptTextV (pt cs k).1 (pt cs k).2))).1
        rw [HF.out] at ho4
        have hb4 := ((HB.out.alloc HB.out.size (.cells #[.int .i64 (pt cs k).1, .int .i64 (pt cs k).2] 29)).trans (hb3.mono (by have := HB.out.size; simp; omega))).setCell (p := ⟨w1.heap.size, k, none⟩) HB1.out.size (.string (ptTextV (pt cs k).1 (pt cs k).2))
        have HO4 := Lib.hid ho4
        have HB4 := Lib.hid hb4
        clear ho3 ho4 hb4 hb3 a0 a1
        generalize ptTextV (pt cs k).1 (pt cs k).2 = T at *
        go_wp2_with fail
        go_roundw
        case rel => exact ⟨k + 1, by omega, by go_num, HO4.out, HB4.out⟩
        case measure => simp [intOf]; omega
      · have hkn : k = n := by omega
        rw [hkn] at hown
        rw [← hlN, filled_end, hlN] at hown
        have hl := textB_len cs cs.length (Nat.le_refl _)
        rw [List.take_length, hlN] at hl
        have hcells : ∀ (j : Nat) x, (textB cs)[j]? = some x → wr.cell? ⟨w1.heap.size, 0 + j, none⟩ = some (.string x) := fun j x hj => by
          have hjl : j < n := by rw [← hl]; exact (List.getElem?_eq_some_iff.1 hj).1
          rw [Nat.zero_add, World.ownsRow.cellAt hown j (by omega), List.getElem?_map, hj]
          rfl
        have hjb := join_bd (textB cs) (textB_size cs)
        have hall : stTextV cs = joinB (textB cs) := by unfold stTextV; rw [HS.out]; rfl
        have HAL := Lib.hid hall
        have hJ := Tryd.strings_Join w1.heap.size 0 n (textB cs) (strOf [32]) wr hcells hgr (by omega) (by omega) (by show (Lib.join _ [32]).length ≤ _; omega)
        rw [hl] at hJ
        have HJ := Lib.hid hJ
        rw [hkn]
        clear hbw hlN hkn hlt hk hall hown hl hcells hjb hJ
        go_wp2_with fail
        refine HJ.out.mono ?_
        rintro e w3 ⟨rfl, hb3⟩
        go_wp2_with fail
        go_ret
        exact ⟨ret_str HAL.out.symm, HB.out.trans (hb3.mono HB.out.size)⟩
end Go.Proofs.YtkplhljpaflgdaaDoor
