/- Arches: the contracts of ArchText, the program's and the model's. -/
import Derived.Test.YtggkodhfhhjihaaDoorStoneT
import Derived.Test.YtggkodhfhhjihaaDoorJointT
import Derived.Test.YtggkodhfhhjihaaDoorArchI
import Derived.Test.YtggkodhfhhjihaaDoorArchE
namespace Go.Proofs.YtggkodhfhhjihaaDoor
set_option maxRecDepth 100000
open Go.ChangeShapes Go.WideShapes Go.ChangeAt Go.RowKit

theorem jtText_size (ax ay bx by_ : Int) : (jtTextV ax ay bx by_).size ≤ 83 := by
  cases h : okJ ax ay bx by_
  · rw [jtTextV_no h]; exact Nat.zero_le _
  · rw [jtTextV_yes h, ByteArray.size_append, ByteArray.size_append]
    have h1 := ptText_size ax ay
    have h2 := ptText_size bx by_
    have h3 : (strOf [45]).size = 1 := rfl
    omega
def jtT (j : Jt) : ByteArray := jtTextV j.1.1 j.1.2 j.2.1 j.2.2
/-- The texts of joints. -/
def textJ (js : List Jt) : List ByteArray := js.map jtT
/-- What ArchText answers. -/
def arTextV (js : List Jt) : ByteArray := if archV js then joinB (textJ js) else ⟨#[]⟩
theorem arTextV_no {js : List Jt} (h : archV js = false) : arTextV js = ⟨#[]⟩ := by unfold arTextV; rw [h]; rfl
theorem arTextV_yes {js : List Jt} (h : archV js = true) : arTextV js = joinB (textJ js) := by unfold arTextV; rw [h]; rfl
theorem textJ_size (js : List Jt) : ∀ x ∈ textJ js, x.size ≤ 83 := by
  intro x hx
  obtain ⟨p, -, rfl⟩ := List.mem_map.1 hx
  exact jtText_size _ _ _ _
theorem textJ_next (js : List Jt) (k : Nat) (h : k < js.length) : textJ (js.take (k + 1)) = textJ (js.take k) ++ [jtT (jt js k)] := by
  unfold textJ
  rw [List.take_succ_eq_append_getElem h, List.map_append, jt_get h]
  rfl
theorem textJ_len (js : List Jt) (k : Nat) (h : k ≤ js.length) : (textJ (js.take k)).length = k := by simp [textJ]; omega
theorem join_bd3 (l : List ByteArray) (h : ∀ x ∈ l, x.size ≤ 83) : (Lib.join (l.map (·.data.toList)) [32]).length ≤ 84 * l.length := by
  have hl := lens_le l 83 h
  cases l with
  | nil => simp [Lib.join_nil]
  | cons y r =>
    rw [List.map_cons, Lib.join_length]
    rw [List.map_cons] at hl
    simp only [List.length_cons, List.length_map, List.length_nil] at hl ⊢
    omega
theorem joinB_size3 (l : List ByteArray) (h : ∀ x ∈ l, x.size ≤ 83) : (joinB l).size ≤ 84 * l.length := by
  have := join_bd3 l h
  unfold joinB
  simpa [ByteArray.size] using this

set_option maxHeartbeats 2000000 in
theorem specArchText (w : World) (B g cap n : Nat) (js : List Jt) (hr : JRowAt w B g cap js) (hn : js.length = n) (h8 : n ≤ 1048576) :
    Calls Tryd.prog 19 #[.agg #[.slice (some ⟨g, 0, none⟩) n cap]] w fun e w' => e = .returned (.string (arTextV js)) ∧ Below w.heap.size w w' := by
  have hlt := hr.lt
  have hb0 := ((Below.refl w.heap.size w).alloc (Nat.le_refl _) (.cells #[.slice (some ⟨g, 0, none⟩) n cap] 26))
  have hc0 : (w.alloc (.cells #[.slice (some ⟨g, 0, none⟩) n cap] 26)).cell? ⟨w.heap.size, 0, none⟩ = some (.slice (some ⟨g, 0, none⟩) n cap) := by go_simp
  have HR := Lib.hid hr
  have HRA := Lib.hid (hr.below hb0)
  have HB0 := Lib.hid hb0
  have HN := Lib.hid hn
  have C0 := Lib.hid hc0
  obtain ⟨-, hgw, hcap, hcm⟩ := hlt
  rw [hn] at hcap
  unfold maxLen at hcm
  clear hr hn hb0 hc0
  cases hs : archV js
  · have HZ := Lib.hid (arTextV_no hs)
    have HS := Lib.hid hs
    clear hs
    go_enter Tryd.func19, Tryd.ntmps19
    go_wp2_with fail
    refine wp_loop_rounds 1 ?_
    rw [rounds_succ]
    by_cases h0 : n = 0
    · subst h0
      go_wp2_with fail
      go_ret
      exact ⟨ret_str HZ.out.symm, HB0.out⟩
    · have h1 : 0 < n := by omega
      go_wp2_with fail
      refine (specArchOk _ _ _ _ _ js HRA.out HN.out h8).mono ?_
      rintro e w1 ⟨rfl, hb1⟩
      rw [HS.out]
      go_wp2_with fail
      go_ret
      exact ⟨ret_str HZ.out.symm, HB0.out.trans (hb1.mono (by simp <;> omega))⟩
  · have g38 := arch_size hs
    rw [HN.out] at g38
    obtain ⟨g3, g6⟩ := g38
    have HS := Lib.hid hs
    clear hs
    go_enter Tryd.func19, Tryd.ntmps19
    go_wp2_with fail
    go_loopw [3, 4] (fun q t wr => ∃ k : Nat, k ≤ n ∧ t = .int .i64 k ∧ q = .string (joinB (textJ (js.take k))) ∧ Below w.heap.size w wr ∧ wr.cell? ⟨w.heap.size, 0, none⟩ = some (.slice (some ⟨g, 0, none⟩) n cap))
      (fun _ t _ => n - (intOf t).toNat)
    case atStart => exact ⟨0, Nat.zero_le _, rfl, rfl, HB0.out, C0.out⟩
    case round =>
      clear C0
      obtain ⟨k, hk, rfl, rfl, hbw, hsw⟩ := hrel
      have HB := Lib.hid hbw
      have hlN := HN.out
      by_cases hlt : k < n
      · have HR2 := Lib.hid (HR.out.below hbw)
        have htl := textJ_len js k (by omega)
        have hsz := joinB_size3 (textJ (js.take k)) (textJ_size _)
        rw [htl] at hsz
        have hnx := textJ_next js k (by omega)
        have hne : 0 < k → joinB (textJ (js.take (k + 1))) = joinB (textJ (js.take k)) ++ strOf [32] ++ jtT (jt js k) := fun h => by
          rw [hnx, joinB_snoc _ _ (by intro hh; rw [hh] at htl; simp at htl; omega)]
        have he0 : k = 0 → joinB (textJ (js.take (k + 1))) = jtT (jt js k) := fun h => by subst h; rw [hnx]; exact joinB_one _
        have hpz := jtText_size (jt js k).1.1 (jt js k).1.2 (jt js k).2.1 (jt js k).2.2
        have HJT := Lib.hid (show jtT (jt js k) = jtTextV (jt js k).1.1 (jt js k).1.2 (jt js k).2.1 (jt js k).2.2 from rfl)
        have HNE := Lib.hid hne
        have he1 : k = 0 → RowKit.Hid (joinB (textJ (js.take (k + 1))) = jtT (jt js k)) := fun h => Lib.hid (he0 h)
        have HE0 := Lib.hid he1
        have hbs := cell_block_lt hsw
        clear hbw hlN htl hnx hne he0 he1
        by_cases hk0 : k = 0
        · have HE := HE0.out hk0
          subst hk0
          rw [show joinB (textJ (js.take 0)) = ⟨#[]⟩ from rfl]
          go_wp2_with fail
          refine (specArchOk _ _ _ _ _ js HR2.out HN.out h8).mono ?_
          rintro e w1 ⟨rfl, hb1⟩
          rw [HS.out]
          obtain ⟨a0, a1, a2, a3⟩ := (HR2.out.below hb1).cells 0 (by have := HN.out; omega)
          rw [Nat.zero_mul] at a0 a1 a2 a3
          rw [Nat.zero_add] at a1 a2 a3
          have s1 := cell_kept hsw hb1
          have HB1 := Lib.hid (HB.out.trans (hb1.mono HB.out.size))
          clear hb1 hsw
          go_wp2_with fail
          refine (specJointText _ _ _ _ _).mono ?_
          rintro e w2 ⟨rfl, hb2⟩
          rw [HJT.out] at HE
          generalize jtTextV (jt js 0).1.1 (jt js 0).1.2 (jt js 0).2.1 (jt js 0).2.2 = T at *
          have HS2 := Lib.hid (cell_kept s1 hb2)
          have HB2 := Lib.hid (HB1.out.trans (hb2.mono HB1.out.size))
          clear hb2 s1 a0 a1 a2 a3
          go_wp2_with fail
          go_roundw
          case rel => exact ⟨1, by omega, by go_num, by rw [HE.out]; simp [nil_app], HB2.out, HS2.out⟩
          case measure => simp [intOf]; omega
        · have hkp : (0 : Int) < (k : Int) := by omega
          have hE := HNE.out (by omega)
          rw [HJT.out] at hE
          have HE := Lib.hid hE
          clear hE
          generalize joinB (textJ (js.take k)) = J at *
          go_wp2_with fail
          refine (specArchOk _ _ _ _ _ js HR2.out HN.out h8).mono ?_
          rintro e w1 ⟨rfl, hb1⟩
          rw [HS.out]
          obtain ⟨a0, a1, a2, a3⟩ := (HR2.out.below hb1).cells k (by have := HN.out; omega)
          have s1 := cell_kept hsw hb1
          have HB1 := Lib.hid (HB.out.trans (hb1.mono HB.out.size))
          clear hb1 hsw
          go_wp2_with fail
          refine (specJointText _ _ _ _ _).mono ?_
          rintro e w2 ⟨rfl, hb2⟩
          generalize jtTextV (jt js k).1.1 (jt js k).1.2 (jt js k).2.1 (jt js k).2.2 = T at *
          have HS2 := Lib.hid (cell_kept s1 hb2)
          have HB2 := Lib.hid (HB1.out.trans (hb2.mono HB1.out.size))
          clear hb2 s1 a0 a1 a2 a3
          go_wp2_with fail
          go_roundw
          case rel => exact ⟨k + 1, by omega, by go_num, by rw [HE.out], HB2.out, HS2.out⟩
          case measure => simp [intOf]; omega
      · have hkn : k = n := by omega
        rw [hkn]
        have hall : arTextV js = joinB (textJ (js.take n)) := by rw [arTextV_yes HS.out, ← hlN, List.take_length]
        have HAL := Lib.hid hall
        clear hbw hlN hkn hlt hk hall
        go_wp2_with fail
        go_ret
        exact ⟨ret_str HAL.out.symm, HB.out⟩

/-- The texts as far as they have been written. -/
def filledJ (js : List Jt) (k : Nat) : List Value := (textJ (js.take k)).map Value.string ++ List.replicate (js.length - k) (.string ByteArray.empty)
theorem made_strJ (js : List Jt) : (madeCells (Value.string ByteArray.empty).cells (js.length * 1)).toList = filledJ js 0 := by
  rw [Nat.mul_one]
  exact toList_madeCells_one _ _
theorem filledJ_at (js : List Jt) (k : Nat) (h : k < js.length) : (filledJ js k)[k]? = some (.string ByteArray.empty) := by
  unfold filledJ
  rw [List.getElem?_append_right (by simp [textJ_len js k (by omega)]), List.length_map, textJ_len js k (by omega), Nat.sub_self, List.getElem?_replicate, if_pos (by omega)]
theorem filledJ_next (js : List Jt) (k : Nat) (h : k < js.length) : (filledJ js k).set k (.string (jtT (jt js k))) = filledJ js (k + 1) := by
  have hl := textJ_len js k (by omega)
  unfold filledJ
  rw [show js.length - k = (js.length - (k + 1)) + 1 by omega, List.replicate_succ, List.set_append_right _ _ (by simp [hl]), List.length_map, hl, Nat.sub_self, List.set_cons_zero, textJ_next js k h, List.map_append, List.append_assoc]
  rfl
theorem filledJ_end (js : List Jt) : filledJ js js.length = (textJ js).map Value.string := by simp [filledJ]

set_option maxHeartbeats 2000000 in
theorem implArchText (w : World) (B g cap n : Nat) (js : List Jt) (hr : JRowAt w B g cap js) (hn : js.length = n) (hT : Tens w) :
    Calls Tryd.prog 12 #[.agg #[.slice (some ⟨g, 0, none⟩) n cap]] w fun e w' => e = .returned (.string (arTextV js)) ∧ Below w.heap.size w w' := by
  have HT := Lib.hid hT
  have hlt := hr.lt
  have hb0 := ((Below.refl w.heap.size w).alloc (Nat.le_refl _) (.cells #[.slice (some ⟨g, 0, none⟩) n cap] 26))
  have HR := Lib.hid hr
  have HRA := Lib.hid (hr.below hb0)
  have HB0 := Lib.hid hb0
  have HN := Lib.hid hn
  obtain ⟨-, hgw, hcap, hcm⟩ := hlt
  rw [hn] at hcap
  unfold maxLen at hcm
  clear hr hn hb0 hT
  cases hs : archV js
  · have HZ := Lib.hid (arTextV_no hs)
    have HS := Lib.hid hs
    clear hs
    go_enter Tryd.func12, Tryd.ntmps12
    go_wp2_with fail
    refine (buildNo _ _ _ _ _ js HRA.out HN.out HS.out).mono ?_
    rintro e w1 ⟨rfl, hb1⟩
    have HB1 := Lib.hid (HB0.out.trans (hb1.mono HB0.out.size))
    clear hb1
    go_wp2_with fail
    go_ret
    exact ⟨ret_str HZ.out.symm, below_al3 HB1.out _⟩
  · have g38 := arch_size hs
    rw [HN.out] at g38
    obtain ⟨g3, g6⟩ := g38
    obtain ⟨i0, hi0, hz0, hz1, hz2⟩ := info_parts Tryd.infoStr
    have HS := Lib.hid hs
    clear hs
    go_enter Tryd.func12, Tryd.ntmps12
    go_wp2_with fail
    refine (buildYes _ _ _ _ _ js HRA.out HN.out HS.out).mono ?_
    rintro e w1 ⟨sg, sc, rfl, hbu, hb1⟩
    have HBX := Lib.hid (below_al3 (HB0.out.trans (hb1.mono HB0.out.size)) (.cells #[.slice (some ⟨g, 0, none⟩) n cap, .slice (some ⟨sg, 0, none⟩) (n - 1) sc] 53))
    have hk0 : (w1.alloc (.cells #[.slice (some ⟨g, 0, none⟩) n cap, .slice (some ⟨sg, 0, none⟩) (n - 1) sc] 53)).cell? ⟨w1.heap.size, 0, none⟩ = some (.slice (some ⟨g, 0, none⟩) n cap) := by go_simp
    have HK0 := Lib.hid hk0
    clear hb1 hbu hk0
    go_wp2_with (at_make; refine wpList_make_full _ rfl _ _ 63 rfl (w1.heap.size + 1) 9 i0 (.string ByteArray.empty) 1 Tryd.underlying63 hi0 hz0 hz1 .i64 .i64 _ _ n rfl rfl rfl rfl (by rw [hz2]; omega) (by unfold maxLen; omega) (by simp) ?_; intro w2 hown2 hgrow2; have hb2 : Below (w1.heap.size + 1) (w1.alloc (.cells #[.slice (some ⟨g, 0, none⟩) n cap, .slice (some ⟨sg, 0, none⟩) (n - 1) sc] 53)) w2 := ((Below.refl _ _).grown hgrow2 (by simp) (fun k hk => by cases hk)); have s2 : w2.cell? ⟨w1.heap.size, 0, none⟩ = some (.slice (some ⟨g, 0, none⟩) n cap) := (hb2.cell (p := ⟨w1.heap.size, 0, none⟩) (by show w1.heap.size < w1.heap.size + 1; omega)).trans HK0.out; have l2 := cell_block_lt s2; simp only [World.size_alloc] at hown2)
    have hb02 := HBX.out.trans (hb2.mono (by have := HBX.out.size; simp at this; exact this))
    have HB2 := Lib.hid hb02
    have hz2w : w1.heap.size + 1 < w2.heap.size := (World.ownsRow.lt hown2 _ rfl).2
    have hwz : w.heap.size ≤ w1.heap.size + 1 := by have := HBX.out.size; simp at this; exact this
    rw [show (madeCells (Value.string ByteArray.empty).cells (n * 1)).toList = filledJ js 0 by rw [← HN.out]; exact made_strJ js] at hown2
    have HO2 := Lib.hid hown2
    clear hgrow2 hb2 hown2 hb02
    go_wp2_with fail
    go_loopw [22] (fun t wr => ∃ k : Nat, k ≤ n ∧ t = .int .i64 k ∧ wr.ownsRow (w1.heap.size + 1) 9 1 (.slice (some ⟨w1.heap.size + 1, 0, none⟩) n n) n (filledJ js k) ∧ Below w.heap.size w wr)
      (fun t _ => n - (intOf t).toNat)
    case atStart => exact ⟨0, Nat.zero_le _, rfl, HO2.out, HB2.out⟩
    case round =>
      clear HO2 HB2
      obtain ⟨k, hk, rfl, hown, hbw⟩ := hrel
      have hlN := HN.out
      have HO := Lib.hid hown
      have HB := Lib.hid hbw
      have hgr := (World.ownsRow.lt hown _ rfl).2
      by_cases hlt : k < n
      · obtain ⟨a0, a1, a2, a3⟩ := (HR.out.below hbw).cells k (by omega)
        have hgl : g < wr.heap.size := by have := hbw.size; omega
        have hF := filledJ_next js k (by omega)
        have hA := filledJ_at js k (by omega)
        rw [show jtT (jt js k) = jtTextV (jt js k).1.1 (jt js k).1.2 (jt js k).2.1 (jt js k).2.2 from rfl] at hF
        have hpz := jtText_size (jt js k).1.1 (jt js k).1.2 (jt js k).2.1 (jt js k).2.2
        have hJT := fun W h => implJointText (jt js k).1.1 (jt js k).1.2 (jt js k).2.1 (jt js k).2.2 W h
        generalize jtTextV (jt js k).1.1 (jt js k).1.2 (jt js k).2.1 (jt js k).2.2 = T at *
        generalize (jt js k).1.1 = ax at *
        generalize (jt js k).1.2 = ay at *
        generalize (jt js k).2.1 = bx at *
        generalize (jt js k).2.2 = by_ at *
        have HF := Lib.hid hF
        have HA := Lib.hid hA
        have HJT := Lib.hid hJT
        clear hown hbw hlN hF hA hJT
        go_wp2_with fail
        refine (HJT.out _ (HT.out.below (HB.out.alloc HB.out.size _))).mono ?_
        rintro e w3 ⟨rfl, hb3⟩
        have ho3 := owns_below (World.ownsRow.alloc HO.out (.cells #[.int .i64 ax, .int .i64 ay, .int .i64 bx, .int .i64 by_] 60)) hb3
        have c0 : w3.cell? ⟨w1.heap.size + 1, k, none⟩ = some (.string ByteArray.empty) := (World.ownsRow.cellAt ho3 k (by omega)).trans HA.out
        have f0 : w3.frozen? ⟨w1.heap.size + 1, k, none⟩ = false := World.ownsRow.frozenAt ho3 k
        have ho4 := (World.ownsRow.stored ho3 k (.string T)).1
        rw [HF.out] at ho4
        have hb4 := ((HB.out.alloc HB.out.size (.cells #[.int .i64 ax, .int .i64 ay, .int .i64 bx, .int .i64 by_] 60)).trans (hb3.mono (by have := HB.out.size; simp; omega))).setCell (p := ⟨w1.heap.size + 1, k, none⟩) hwz (.string T)
        have HO4 := Lib.hid ho4
        have HB4 := Lib.hid hb4
        clear ho3 ho4 hb4 hb3 a0 a1 a2 a3
        go_wp2_with fail
        go_roundw
        case rel => exact ⟨k + 1, by omega, by go_num, HO4.out, HB4.out⟩
        case measure => simp [intOf]; omega
      · have hkn : k = n := by omega
        rw [hkn] at hown
        rw [← hlN, filledJ_end, hlN] at hown
        have hl := textJ_len js js.length (Nat.le_refl _)
        rw [List.take_length, hlN] at hl
        have hcells : ∀ (j : Nat) x, (textJ js)[j]? = some x → wr.cell? ⟨w1.heap.size + 1, 0 + j, none⟩ = some (.string x) := fun j x hj => by
          have hjl : j < n := by rw [← hl]; exact (List.getElem?_eq_some_iff.1 hj).1
          rw [Nat.zero_add, World.ownsRow.cellAt hown j (by omega), List.getElem?_map, hj]
          rfl
        have hjb := join_bd3 (textJ js) (textJ_size js)
        have hall : arTextV js = joinB (textJ js) := arTextV_yes HS.out
        have HAL := Lib.hid hall
        have hJ := Tryd.strings_Join (w1.heap.size + 1) 0 n (textJ js) (strOf [32]) wr hcells hgr (by omega) (by omega) (by show (Lib.join _ [32]).length ≤ _; omega)
        rw [hl] at hJ
        have HJ := Lib.hid hJ
        rw [hkn]
        clear hbw hlN hkn hlt hk hall hown hl hcells hjb hJ
        go_wp2_with fail
        refine HJ.out.mono ?_
        rintro e w3 ⟨rfl, hb3⟩
        go_wp2_with fail
        go_ret
        exact ⟨ret_str HAL.out.symm, HB.out.trans (hb3.mono HB.out.size)⟩
end Go.Proofs.YtggkodhfhhjihaaDoor
