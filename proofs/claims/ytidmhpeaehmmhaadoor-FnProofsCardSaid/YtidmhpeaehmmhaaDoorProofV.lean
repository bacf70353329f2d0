/- The text of a proof: of the model and of the program. -/
import Derived.Test.YtidmhpeaehmmhaaDoorPrL
import Derived.Test.YtidmhpeaehmmhaaDoorFormatC
import Derived.Test.YtidmhpeaehmmhaaDoorShelf
import Derived.Lib.Join
import Derived.Deep.Cut
import Derived.Deep.CutRange
namespace Go.Proofs.YtidmhpeaehmmhaaDoor
set_option maxRecDepth 100000
open Go.ChangeShapes Go.WideShapes Go.ChangeAt Go.RowKit
set_option linter.unusedSimpArgs false

/-- Texts joined by a space. -/
def jnB (l : List ByteArray) : ByteArray := ⟨(Lib.join (l.map (·.data.toList)) [32]).toArray⟩
theorem strOf_list (b : ByteArray) : strOf b.data.toList = b := by cases b; simp
theorem nil_appP (T : ByteArray) : (⟨#[]⟩ : ByteArray) ++ T = T := by cases T; rw [ByteArray.mk_append_mk]; simp
theorem jnB_one (x : ByteArray) : jnB [x] = x := by
  unfold jnB
  rw [List.map_cons, List.map_nil, Lib.join_one]
theorem jnTail_snoc (sep : List UInt8) (r : List (List UInt8)) (x : List UInt8) : Lib.joinTail sep (r ++ [x]) = Lib.joinTail sep r ++ (sep ++ x) := by simp [Lib.joinTail]
theorem jnB_snoc (l : List ByteArray) (x : ByteArray) (h : l ≠ []) : jnB (l ++ [x]) = jnB l ++ strOf [32] ++ x := by
  cases l with
  | nil => exact absurd rfl h
  | cons y r =>
    unfold jnB
    rw [List.cons_append, List.map_cons, List.map_append, List.map_cons, List.map_nil, List.map_cons, Lib.join_cons, Lib.join_cons, jnTail_snoc, ← List.append_assoc]
    show strOf _ = strOf _ ++ strOf [32] ++ x
    rw [← str_append, ← str_append y.data.toList, ← str_append [32], strOf_list x]
    simp only [ByteArray.append_assoc]
theorem jnlens_le (l : List ByteArray) (c : Nat) (h : ∀ x ∈ l, x.size ≤ c) : Lib.lens (l.map (·.data.toList)) ≤ c * l.length := by
  induction l with
  | nil => simp [Lib.lens]
  | cons y r ih =>
    have h1 := h y (by simp)
    have h2 := ih fun x hx => h x (by simp [hx])
    simp only [Lib.lens, List.map_cons, List.sum_cons, List.length_cons] at h2 ⊢
    have h3 : y.data.toList.length = y.size := by cases y; simp [ByteArray.size]
    rw [Nat.mul_succ]
    omega
theorem jn_bd (l : List ByteArray) (h : ∀ x ∈ l, x.size ≤ 41) : (Lib.join (l.map (·.data.toList)) [32]).length ≤ 42 * l.length := by
  have hl := jnlens_le l 41 h
  cases l with
  | nil => simp [Lib.join_nil]
  | cons y r =>
    rw [List.map_cons, Lib.join_length]
    rw [List.map_cons] at hl
    simp only [List.length_cons, List.length_map, List.length_nil] at hl ⊢
    omega
theorem jnB_size (l : List ByteArray) (h : ∀ x ∈ l, x.size ≤ 41) : (jnB l).size ≤ 42 * l.length := by
  have := jn_bd l h
  unfold jnB
  simpa [ByteArray.size] using this

/-- The text of the i-th factor; of the first k; of all. -/
def prT (ps fs : List Int) (i : Nat) : ByteArray := strOf (Lib.itoa (fs.getD i 0)) ++ strOf [120] ++ strOf (Lib.itoa (ps.getD i 0))
def prB (ps fs : List Int) (k : Nat) : List ByteArray := (List.range k).map (prT ps fs)
def prText (ps fs : List Int) : ByteArray := if fs.length = ps.length then jnB (prB ps fs ps.length) else ⟨#[]⟩
theorem prText_no {ps fs : List Int} (h : ¬ fs.length = ps.length) : prText ps fs = ⟨#[]⟩ := by unfold prText; rw [if_neg h]
theorem prText_yes {ps fs : List Int} (h : fs.length = ps.length) : prText ps fs = jnB (prB ps fs ps.length) := by unfold prText; rw [if_pos h]
theorem prB_len (ps fs : List Int) (k : Nat) : (prB ps fs k).length = k := by simp [prB]
theorem prB_next (ps fs : List Int) (k : Nat) : prB ps fs (k + 1) = prB ps fs k ++ [prT ps fs k] := by unfold prB; rw [List.range_succ, List.map_append]; rfl
theorem itoaP_len {n : Int} (h : I64 n) : (Lib.itoa n).length ≤ 20 := by
  obtain ⟨h0, h1⟩ := h
  unfold Lib.itoa
  split
  · have := dec_length n.natAbs 19 (by omega) (by omega)
    simp; omega
  · have := dec_length n.toNat 19 (by omega) (by omega)
    omega
theorem prT_size {ps fs : List Int} {i : Nat} (h1 : I64 (ps.getD i 0)) (h2 : I64 (fs.getD i 0)) : (prT ps fs i).size ≤ 41 := by
  have k1 := itoaP_len h1
  have k2 := itoaP_len h2
  unfold prT
  rw [str_append, str_append]
  show (List.toArray _).size ≤ 41
  simp only [List.size_toArray, List.length_append, List.length_cons, List.length_nil]
  omega
theorem prB_size {ps fs : List Int} {k : Nat} (h1 : ∀ i, i < k → I64 (ps.getD i 0)) (h2 : ∀ i, i < k → I64 (fs.getD i 0)) : ∀ x ∈ prB ps fs k, x.size ≤ 41 := by
  intro x hx
  obtain ⟨i, hi, rfl⟩ := List.mem_map.1 hx
  have := List.mem_range.1 hi
  exact prT_size (h1 i this) (h2 i this)
theorem prJ_next (ps fs : List Int) (k : Nat) (h : 0 < k) : jnB (prB ps fs (k + 1)) = jnB (prB ps fs k) ++ strOf [32] ++ prT ps fs k := by
  rw [prB_next, jnB_snoc _ _ (fun hh => by have := prB_len ps fs k; rw [hh] at this; simp at this; omega)]
theorem prJ_one (ps fs : List Int) : jnB (prB ps fs 1) = prT ps fs 0 := jnB_one _


theorem Tryd.infoStrP : (Tryd.prog.info? 9).map (fun i => (i.zero, i.size, i.bytes)) = some (some (.string ByteArray.empty), 1, 16) := by kernel_rfl
/-- The texts as far as they have been written. -/
def filledP (ps fs : List Int) (n k : Nat) : List Value := (prB ps fs k).map Value.string ++ List.replicate (n - k) (.string ByteArray.empty)
theorem madeP_str (ps fs : List Int) (n : Nat) : (madeCells (Value.string ByteArray.empty).cells (n * 1)).toList = filledP ps fs n 0 := by
  rw [Nat.mul_one]
  exact toList_madeCells_one _ _
theorem filledP_at (ps fs : List Int) (n k : Nat) (h : k < n) : (filledP ps fs n k)[k]? = some (.string ByteArray.empty) := by
  unfold filledP
  rw [List.getElem?_append_right (by simp [prB_len]), List.length_map, prB_len, Nat.sub_self, List.getElem?_replicate, if_pos (by omega)]
theorem filledP_next (ps fs : List Int) (n k : Nat) (h : k < n) : (filledP ps fs n k).set k (.string (prT ps fs k)) = filledP ps fs n (k + 1) := by
  unfold filledP
  rw [show n - k = (n - (k + 1)) + 1 by omega, List.replicate_succ, List.set_append_right _ _ (by simp [prB_len]), List.length_map, prB_len, Nat.sub_self, List.set_cons_zero, prB_next, List.map_append, List.append_assoc]
  rfl
theorem filledP_end (ps fs : List Int) (n : Nat) : filledP ps fs n n = (prB ps fs n).map Value.string := by simp [filledP]

set_option maxRecDepth 100000 in
set_option maxHeartbeats 2000000 in
theorem implProofText (w : World) (B B2 : Nat) (a b : Option Addr) (n cap m cap2 : Nat) (ps fs : List Int) (hp : Ins w B a n cap ps) (hf : Ins w B2 b m cap2 fs) (h1 : ∀ i, i < n → I64 (ps.getD i 0)) (h2 : ∀ i, i < m → I64 (fs.getD i 0)) (hn : n ≤ 1048576) (hT : Tens w) :
    Calls Tryd.prog 12 #[.agg #[.slice a n cap, .slice b m cap2]] w fun e w' => e = .returned (.string (prText ps fs)) ∧ Below w.heap.size w w' := by
  obtain ⟨i0, hi0, hz0, hz1, hz2⟩ := info_parts Tryd.infoStrP
  have HT := Lib.hid hT
  have HLP := Lib.hid hp.2
  have HLF := Lib.hid hf.2
  have HP := Lib.hid hp
  have HF := Lib.hid hf
  have H1 := Lib.hid h1
  have H2 := Lib.hid h2
  have HB0 := Lib.hid ((Below.refl w.heap.size w).alloc (Nat.le_refl _) (.cells #[.slice a n cap, .slice b m cap2] 27))
  have HX0 := Lib.hid (pbox_alloc w a b n cap m cap2 27)
  clear hp hf h1 h2 hT
  by_cases h5 : m = n
  case neg =>
    have HV := Lib.hid (prText_no (show ¬ fs.length = ps.length by rw [HLF.out, HLP.out]; exact h5))
    have h5' : ((m : Int) != (n : Int)) = true := by simp; omega
    have h5i : ¬ (m : Int) = n := by omega
    clear h5
    go_enter Tryd.func12, Tryd.ntmps12
    go_wp2_with fail
    go_ret
    exact ⟨ret_str HV.out.symm, HB0.out⟩
  subst h5
  have HV := Lib.hid (prText_yes (show fs.length = ps.length by rw [HLF.out, HLP.out]))
  have h5' : ((m : Int) != (m : Int)) = false := by simp
  obtain ⟨W1, hW1⟩ : ∃ W1, W1 = w.alloc (.cells #[.slice a m cap, .slice b m cap2] 27) := ⟨_, rfl⟩
  rw [← hW1] at HB0 HX0
  go_enter Tryd.func12, Tryd.ntmps12
  go_upto_region 3 with fail
  rw [← hW1]
  clear hW1
  obtain ⟨k0, k1⟩ := id HX0.out
  go_wp2_with (at_make; refine wpList_make_full _ rfl _ _ 58 rfl W1.heap.size 9 i0 (.string ByteArray.empty) 1 Tryd.underlying58 hi0 hz0 hz1 .i64 .i64 _ _ m rfl rfl rfl rfl (by rw [hz2]; omega) (by unfold maxLen; omega) (Nat.le_refl _) ?_; intro w2 hown2 hgrow2; have hb2 : Below W1.heap.size W1 w2 := (Below.refl _ _).grown hgrow2 (Nat.le_refl _) (fun k hk => by cases hk); have k0 := cell_kept k0 hb2; have k1 := cell_kept k1 hb2; have HB2 := Lib.hid (HB0.out.trans (hb2.mono HB0.out.size)); have HX2 := Lib.hid (HX0.out.below hb2))
  have HS1 := Lib.hid (show w.heap.size < W1.heap.size from cell_block_lt HX0.out.1)
  rw [madeP_str ps fs m] at hown2
  have HO2 := Lib.hid hown2
  clear hgrow2 hb2 hown2 HB0 HX0
  go_loopw [20] (fun t wr => ∃ k : Nat, k ≤ m ∧ t = .int .i64 k ∧ wr.ownsRow W1.heap.size 9 1 (.slice (some ⟨W1.heap.size, 0, none⟩) m m) m (filledP ps fs m k) ∧ PBox wr w.heap.size a m cap b m cap2 ∧ Below w.heap.size w wr)
    (fun t _ => m - (intOf t).toNat)
  case atStart => exact ⟨0, Nat.zero_le _, rfl, HO2.out, HX2.out, HB2.out⟩
  case round =>
    clear HO2 HB2 HX2 k0 k1
    obtain ⟨k, hk, rfl, hown, hbox, hbw⟩ := hrel
    have HO := Lib.hid hown
    have HB := Lib.hid hbw
    have HX := Lib.hid hbox
    obtain ⟨k0, k1⟩ := hbox
    have hgr := (World.ownsRow.lt hown _ rfl).2
    by_cases hlt : k < m
    · obtain ⟨g, rfl, -, a0⟩ := (HP.out.below hbw).at k hlt
      obtain ⟨h, rfl, -, b0⟩ := (HF.out.below hbw).at k hlt
      obtain ⟨x0, x1⟩ := H1.out k hlt
      obtain ⟨y0, y1⟩ := H2.out k hlt
      have hX : (strOf (Lib.itoa (ps.getD k 0))).size ≤ 20 := itoaP_len (H1.out k hlt)
      have hY : (strOf (Lib.itoa (fs.getD k 0))).size ≤ 20 := itoaP_len (H2.out k hlt)
      have HF2 := Lib.hid (filledP_next ps fs m k hlt)
      have HA := Lib.hid (filledP_at ps fs m k hlt)
      have HPT := Lib.hid (show prT ps fs k = strOf (Lib.itoa (fs.getD k 0)) ++ strOf [120] ++ strOf (Lib.itoa (ps.getD k 0)) from rfl)
      generalize ps.getD k 0 = x at *
      generalize fs.getD k 0 = y at *
      have CX := Lib.hid (fun w ht => implFormat x w x0 x1 ht)
      have CY := Lib.hid (fun w ht => implFormat y w y0 y1 ht)
      generalize strOf (Lib.itoa x) = SX at *
      generalize strOf (Lib.itoa y) = SY at *
      generalize prT ps fs k = T at *
      clear hown hbw x0 x1 y0 y1
      go_wp2_with fail
      refine (CY.out _ (HT.out.below HB.out)).mono ?_
      rintro e w3 ⟨rfl, hb3⟩
      have HB3 := Lib.hid (HB.out.trans (hb3.mono HB.out.size))
      have HX3 := Lib.hid (HX.out.below hb3)
      have HO3 := Lib.hid (owns_below HO.out hb3)
      clear hb3 k0 k1 a0 b0 HO HX HB
      go_wp2_with fail
      refine (CX.out _ (HT.out.below HB3.out)).mono ?_
      rintro e w4 ⟨rfl, hb4⟩
      have HB4 := Lib.hid (HB3.out.trans (hb4.mono HB3.out.size))
      have HX4 := Lib.hid (HX3.out.below hb4)
      have ho4 := owns_below HO3.out hb4
      have c0 : w4.cell? ⟨W1.heap.size, k, none⟩ = some (.string ByteArray.empty) := (World.ownsRow.cellAt ho4 k (by omega)).trans HA.out
      have f0 : w4.frozen? ⟨W1.heap.size, k, none⟩ = false := World.ownsRow.frozenAt ho4 k
      have hs5 := World.ownsRow.stored ho4 k (.string T)
      have ho5 := hs5.1
      rw [HF2.out] at ho5
      rw [HPT.out] at ho5 hs5
      have HO5 := Lib.hid ho5
      have HX5 := Lib.hid (HX4.out.grown hs5.2 (by have := HS1.out; simp [Value.ownBlock]; omega))
      have HB5 := Lib.hid (HB4.out.setCell (p := ⟨W1.heap.size, k, none⟩) (Nat.le_of_lt HS1.out) (.string (SY ++ strOf [120] ++ SX)))
      clear hb4 ho4 ho5 hs5 HB3 HX3 HO3 HB4 HX4
      go_wp2_with fail
      go_roundw
      case rel => exact ⟨k + 1, by omega, by go_num, HO5.out, HX5.out, HB5.out⟩
      case measure => simp [intOf]; omega
    · have hkn : k = m := by omega
      subst hkn
      rw [filledP_end] at hown
      have hl := prB_len ps fs k
      have hcells : ∀ (j : Nat) x, (prB ps fs k)[j]? = some x → wr.cell? ⟨W1.heap.size, 0 + j, none⟩ = some (.string x) := fun j x hj => by
        have hjl : j < k := by rw [← hl]; exact (List.getElem?_eq_some_iff.1 hj).1
        rw [Nat.zero_add, World.ownsRow.cellAt hown j (by omega), List.getElem?_map, hj]
        rfl
      have hsize := prB_size (ps := ps) (fs := fs) (k := k) H1.out H2.out
      have hjb := jn_bd (prB ps fs k) hsize
      have HAL := Lib.hid (show prText ps fs = jnB (prB ps fs k) by rw [HV.out, HLP.out])
      have hJ := Tryd.strings_Join W1.heap.size 0 k (prB ps fs k) (strOf [32]) wr hcells hgr (by omega) (by omega) (by show (Lib.join _ [32]).length ≤ _; omega)
      rw [hl] at hJ
      have HJ := Lib.hid hJ
      clear hbw hown hl hcells hjb hJ hsize hlt hk
      go_wp2_with fail
      refine HJ.out.mono ?_
      rintro e w3 ⟨rfl, hb3⟩
      go_wp2_with fail
      go_ret
      exact ⟨ret_str HAL.out.symm, HB.out.trans (hb3.mono HB.out.size)⟩
end Go.Proofs.YtidmhpeaehmmhaaDoor
