/- The contracts of SplitFields: the model's and the program's give the same fields. -/
import Derived.Test.YtibdmidinopppaaDoorStrsP
import Derived.Test.YtibdmidinopppaaDoorShelf
namespace Go.Proofs.YtibdmidinopppaaDoor
open Go.ChangeShapes Go.WideShapes Go.ChangeAt Go.RowKit

/-- The byte at k; behind the end a space. -/
def chAt (s : ByteArray) (k : Nat) : UInt8 := s.data.toList.getD k 32
theorem chAt_in (s : ByteArray) (k : Nat) (h : k < s.size) : chAt s k = s[k] := by
  unfold chAt; rw [List.getD_eq_getElem?_getD, List.getElem?_eq_getElem (by simpa using h)]; rfl
theorem chAt_out (s : ByteArray) (k : Nat) (h : s.size ≤ k) : chAt s k = 32 := by
  unfold chAt; rw [List.getD_eq_getElem?_getD, List.getElem?_eq_none (by simpa using h)]; rfl

/-- Behind k bytes: where the field begins that is being read. -/
def begTo (s : ByteArray) : Nat → Nat
  | 0 => 0
  | k + 1 => if chAt s k = 32 then k + 1 else begTo s k
/-- Behind k bytes: the fields that are complete. -/
def outTo (s : ByteArray) : Nat → List ByteArray
  | 0 => []
  | k + 1 => if chAt s k = 32 ∧ begTo s k < k then outTo s k ++ [s.extract (begTo s k) k] else outTo s k
theorem begTo_le (s : ByteArray) (k : Nat) : begTo s k ≤ k := by
  induction k with
  | zero => exact Nat.le_refl _
  | succ k ih => unfold begTo; split <;> omega
theorem outTo_len (s : ByteArray) (k : Nat) : (outTo s k).length ≤ k := by
  induction k with
  | zero => exact Nat.le_refl _
  | succ k ih =>
    unfold outTo; split
    · simp; omega
    · omega

/-- May this byte stand in a line? -/
def okB (c : UInt8) : Bool := decide (32 ≤ c.toNat ∧ c.toNat ≤ 126)
def okTo (s : ByteArray) (k : Nat) : Bool := (s.data.toList.take k).all okB
theorem okTo_succ (s : ByteArray) (k : Nat) (h : k < s.size) : okTo s (k + 1) = (okTo s k && okB s[k]) := by
  unfold okTo; rw [take_snoc s k h, List.all_append]; simp
theorem okTo_bad (s : ByteArray) (k : Nat) (h : k < s.size) (hb : okB s[k] = false) : okTo s s.size = false := by
  unfold okTo
  rw [take_all, List.all_eq_false]
  exact ⟨s[k], by simp [ByteArray.getElem_eq_getElem_data], by simp [hb]⟩

/-- What SplitFields answers to a line that is not too long. -/
def splitOf (s : ByteArray) : List ByteArray × Bool :=
  if okTo s s.size = true ∧ (outTo s (s.size + 1)).length ≤ 24 then (outTo s (s.size + 1), true) else ([], false)

/-- What both leave: a slice of the call's own that holds the fields; below the call's blocks all is as it was. -/
def SplitPost (s : ByteArray) (w : World) (e : Ending) (w' : World) : Prop :=
  ∃ v, e = .returned (.tuple #[v, .bool (splitOf s).2]) ∧ OwnsStrs w' w.heap.size v (splitOf s).1 ∧ Below w.heap.size w w'

theorem split_no {s : ByteArray} {w w' : World} {v : Value} (h : okTo s s.size = false ∨ 24 < (outTo s (s.size + 1)).length) (hv : OwnsStrs w' w.heap.size v []) (hb : Below w.heap.size w w') :
    SplitPost s w (.returned (.tuple #[v, .bool false])) w' := by
  have e : splitOf s = ([], false) := by
    unfold splitOf; rw [if_neg]; rintro ⟨h1, h2⟩; rcases h with h | h
    · rw [h] at h1; cases h1
    · omega
  exact ⟨v, by rw [e], by rw [e]; exact hv, hb⟩
theorem split_yes {s : ByteArray} {w w' : World} {v : Value} (h1 : okTo s s.size = true) (h2 : (outTo s (s.size + 1)).length ≤ 24) (hv : OwnsStrs w' w.heap.size v (outTo s (s.size + 1))) (hb : Below w.heap.size w w') :
    SplitPost s w (.returned (.tuple #[v, .bool true])) w' := by
  have e : splitOf s = (outTo s (s.size + 1), true) := by unfold splitOf; rw [if_pos ⟨h1, h2⟩]
  exact ⟨v, by rw [e], by rw [e]; exact hv, hb⟩

theorem owns_nil (w : World) (B : Nat) : OwnsStrs w B (.slice none 0 0) [] := World.ownsRow_nil _ _ _ _
theorem owns_made {B : Nat} (w : World) (hb : B ≤ w.heap.size) : OwnsStrs (w.alloc (.cells #[] 9)) B (.slice (some ⟨w.heap.size, 0, none⟩) 0 0) [] := World.ownsRow_made w #[] 0 hb (Nat.zero_le _) rfl

theorem grown_below' {w wr w1 : World} {v : Value} {l : List ByteArray} {o : Obj} (hown : OwnsStrs wr w.heap.size v l) (hbel : Below w.heap.size w wr) (hg : (wr.alloc o).grownBy w1 v.ownBlock) : Below w.heap.size w w1 :=
  (hbel.alloc hbel.size o).grown hg (by have := hbel.size; simp; omega) (fun k hk => (hown.lt k hk).1)

theorem okB_yes (c : UInt8) (h1 : 32 ≤ (c.toNat : Int)) (h2 : (c.toNat : Int) ≤ 126) : okB c = true := by simp [okB]; omega
theorem okB_no (c : UInt8) (h : (c.toNat : Int) < 32 ∨ 126 < (c.toNat : Int)) : okB c = false := by simp [okB]; omega
theorem ch32 (c : UInt8) : c = 32 ↔ (c.toNat : Int) = 32 := by
  constructor
  · rintro rfl; rfl
  · intro h; exact UInt8.toNat_inj.1 (by show c.toNat = 32; omega)

theorem snoc_own {w1 : World} {B : Nat} {v : Value} {l : List ByteArray} {f : ByteArray} (h : w1.ownsRow B 9 1 v (l.length + 1) (l.map Value.string ++ [.string f])) : OwnsStrs w1 B v (l ++ [f]) := by
  unfold OwnsStrs
  rw [List.length_append, List.map_append]
  exact h

theorem out_app {s : ByteArray} {k : Nat} (h1 : chAt s k = 32) (h2 : begTo s k < k) : outTo s (k + 1) = outTo s k ++ [s.extract (begTo s k) k] := by rw [outTo, if_pos ⟨h1, h2⟩]
theorem out_same {s : ByteArray} {k : Nat} (h : chAt s k ≠ 32 ∨ ¬ begTo s k < k) : outTo s (k + 1) = outTo s k := by
  rw [outTo, if_neg]; rintro ⟨h1, h2⟩; rcases h with h | h
  · exact h h1
  · exact h h2
theorem beg_new {s : ByteArray} {k : Nat} (h : chAt s k = 32) : begTo s (k + 1) = k + 1 := by rw [begTo, if_pos h]
theorem beg_same {s : ByteArray} {k : Nat} (h : chAt s k ≠ 32) : begTo s (k + 1) = begTo s k := by rw [begTo, if_neg h]
theorem ok_step {s : ByteArray} {k : Nat} (h : k < s.size) (h1 : okTo s k = true) (h2 : okB s[k] = true) : okTo s (k + 1) = true := by rw [okTo_succ s k h, h1, h2]; rfl
theorem ok_end {s : ByteArray} {k : Nat} (h : s.size ≤ k) (h1 : okTo s k = true) : okTo s s.size = true ∧ okTo s (k + 1) = true := by
  unfold okTo at *
  rw [List.take_of_length_le (by simp; omega)] at h1
  rw [List.take_of_length_le (by simp), List.take_of_length_le (by simp; omega)]
  exact ⟨h1, h1⟩

/-- The relation of the model's loop. -/
def SplitRel (s : ByteArray) (w : World) (v b i : Value) (wr : World) : Prop :=
  ∃ k : Nat, k ≤ s.size + 1 ∧ i = .int .i64 k ∧ b = .int .i64 (begTo s k) ∧ okTo s k = true ∧ OwnsStrs wr w.heap.size v (outTo s k) ∧ Below w.heap.size w wr

set_option maxRecDepth 100000 in
set_option maxHeartbeats 800000 in
theorem specSplit (s : ByteArray) (w : World) (hs : s.size ≤ 600) :
    Calls Tryd.prog 17 #[.string s] w (SplitPost s w) := by
  obtain ⟨i0, hi0, hz0, hz1, hz2⟩ := info_parts Tryd.infoString
  go_enter Tryd.func17, Tryd.ntmps17
  go_wp2_with fail
  go_loopw [4, 5, 6] (fun v b i wr => SplitRel s w v b i wr) (fun _ _ i _ => s.size + 1 - (intOf i).toNat)
  case atStart => exact ⟨0, by omega, rfl, rfl, rfl, owns_made w (Nat.le_refl _), (Below.refl _ _).alloc (Nat.le_refl _) _⟩
  case round =>
    obtain ⟨k, hk, rfl, rfl, hok, hown, hbel⟩ := hrel
    have hbk := begTo_le s k
    have hol := outTo_len s k
    have HK := Lib.hid hok
    have HO := Lib.hid hown
    clear hok hown
    by_cases hlt : k < s.size
    · have hj0 : (0 : Int) ≤ (k : Int) := Int.natCast_nonneg _
      have hb1 : 0 ≤ (s[k].toNat : Int) ∧ (s[k].toNat : Int) ≤ 255 := by have := s[k].toNat_lt; omega
      by_cases hc1 : (s[k].toNat : Int) < 32
      · go_wp2_with fail
        go_ret2
        exact split_no (.inl (okTo_bad s k hlt (okB_no _ (.inl hc1)))) (owns_made _ hbel.size) (hbel.alloc hbel.size _)
      · by_cases hc2 : 126 < (s[k].toNat : Int)
        · go_wp2_with fail
          go_ret2
          exact split_no (.inl (okTo_bad s k hlt (okB_no _ (.inr hc2)))) (owns_made _ hbel.size) (hbel.alloc hbel.size _)
        · have HB := Lib.hid (ok_step hlt HK.out (okB_yes s[k] (by omega) (by omega)))
          by_cases hc3 : (s[k].toNat : Int) = 32
          · have HC := Lib.hid ((chAt_in s k hlt).trans ((ch32 _).2 hc3))
            have hne : ((s[k].toNat : Int) != 32) = false := by simp [hc3]
            clear hc3
            by_cases hbg : begTo s k < k
            · go_wp2_with (at_builtin; refine wpList_append_lies _ rfl _ _ _ rfl w.heap.size 9 i0 _ 1 16 Tryd.underlying31 hi0 hz0 hz1 hz2 rfl (by omega) u4 _ _ (by rfl) (HO.out.alloc _) ⟨wr.heap.size, 0, none⟩ 1 1 [.string (s.extract (begTo s k) k)] (by rfl) (by rfl) (World.news_of_block (cs := #[.string (s.extract (begTo s k) k)]) (t := 9) (fr := (0, 0)) (heap_alloc_new wr _)) (by simp [Value.oneCell']) (by omega) (by unfold maxLen; omega) (by omega) (by have := hbel.size; simp; omega) (wr.heap.size + 1) (by simp) ?_; intro gg cap w1 hown1 hgrow hat hgl)
              refine ⟨⟨k + 1, by omega, by go_num, ?_, HB.out, ?_, grown_below' HO.out hbel hgrow⟩, by simp [intOf]; omega⟩
              · rw [beg_new HC.out]; go_num
              · rw [out_app HC.out hbg]; exact snoc_own hown1
            · go_wp2_with fail
              refine ⟨⟨k + 1, by omega, by go_num, ?_, HB.out, ?_, hbel⟩, by simp [intOf]; omega⟩
              · rw [beg_new HC.out]; go_num
              · rw [out_same (.inr hbg)]; exact HO.out
          · have HC := Lib.hid (show chAt s k ≠ 32 by rw [chAt_in s k hlt]; exact fun e => hc3 ((ch32 _).1 e))
            have hne : ((s[k].toNat : Int) != 32) = true := by simp [hc3]
            clear hc3
            go_wp2_with fail
            refine ⟨⟨k + 1, by omega, by go_num, ?_, HB.out, ?_, hbel⟩, by simp [intOf]; omega⟩
            · rw [beg_same HC.out]
            · rw [out_same (.inl HC.out)]; exact HO.out
    · by_cases hlt2 : k ≤ s.size
      · obtain rfl : k = s.size := by omega
        have HC := Lib.hid (chAt_out s s.size (Nat.le_refl _))
        have HB := Lib.hid (ok_end (Nat.le_refl _) HK.out).2
        by_cases hbg : begTo s s.size < s.size
        · go_wp2_with (at_builtin; refine wpList_append_lies _ rfl _ _ _ rfl w.heap.size 9 i0 _ 1 16 Tryd.underlying31 hi0 hz0 hz1 hz2 rfl (by omega) u4 _ _ (by rfl) (HO.out.alloc _) ⟨wr.heap.size, 0, none⟩ 1 1 [.string (s.extract (begTo s s.size) s.size)] (by rfl) (by rfl) (World.news_of_block (cs := #[.string (s.extract (begTo s s.size) s.size)]) (t := 9) (fr := (0, 0)) (heap_alloc_new wr _)) (by simp [Value.oneCell']) (by omega) (by unfold maxLen; omega) (by omega) (by have := hbel.size; simp; omega) (wr.heap.size + 1) (by simp) ?_; intro gg cap w1 hown1 hgrow hat hgl)
          refine ⟨⟨s.size + 1, by omega, by go_num, ?_, HB.out, ?_, grown_below' HO.out hbel hgrow⟩, by simp [intOf]⟩
          · rw [beg_new HC.out]; go_num
          · rw [out_app HC.out hbg]; exact snoc_own hown1
        · go_wp2_with fail
          refine ⟨⟨s.size + 1, by omega, by go_num, ?_, HB.out, ?_, hbel⟩, by simp [intOf]⟩
          · rw [beg_new HC.out]; go_num
          · rw [out_same (.inr hbg)]; exact HO.out
      · obtain rfl : k = s.size + 1 := by omega
        have HB := Lib.hid (ok_end (Nat.le_refl _) (show okTo s s.size = true by
          have h := HK.out
          unfold okTo at *
          rw [List.take_of_length_le (by simp)] at h ⊢
          exact h)).1
        obtain ⟨a, cap, rfl⟩ := HO.out.len
        by_cases hbig : 24 < (outTo s (s.size + 1)).length
        · go_wp2_with fail
          go_ret2
          exact split_no (.inr hbig) (owns_made _ hbel.size) (hbel.alloc hbel.size _)
        · go_wp2_with fail
          go_ret2
          exact split_yes HB.out (by omega) HO.out hbel
theorem clone_any (s : ByteArray) (w : World) (hs : s.size ≤ 600) :
    Calls Tryd.prog 39 #[.string s] w fun e w' => e = .returned (.string s) ∧ Below w.heap.size w w' := by
  go_enter Tryd.func39, Tryd.ntmps39
  go_wp2_with (go_at_call 47; refine (Tryd.stringslite_Clone _ _ (by omega)).mono ?_; rintro e w1 ⟨rfl, hb1⟩)
  go_ret
  exact ⟨rfl, hb1⟩

/-- appendField at the empty field: the list as it was. -/
theorem appendField_empty (v : Value) (f : ByteArray) (w : World) (hf : f.size = 0) :
    Calls Tryd.prog 31 #[v, .string f] w fun e w' => e = .returned v ∧ w = w' := by
  have he : f.toList.isEmpty = true := by
    rw [Lib.toList_data]
    cases hd : f.data.toList with
    | nil => rfl
    | cons a t =>
      have h1 : f.data.toList.length = f.size := by simp
      rw [hd] at h1
      simp at h1
      omega
  clear hf
  go_enter Tryd.func31, Tryd.ntmps31
  go_wp2
  go_ret
  exact ⟨rfl, rfl⟩

/-- appendField at a field that is not empty: the list with a copy of it. -/
def Appended (B : Nat) (v : Value) (l : List ByteArray) (f : ByteArray) (w : World) (e : Ending) (w' : World) : Prop :=
  ∃ v', e = .returned v' ∧ OwnsStrs w' B v' (l ++ [f]) ∧ w.grownBy w' v.ownBlock

set_option maxHeartbeats 400000 in
theorem appendField_more (v : Value) (B : Nat) (l : List ByteArray) (f : ByteArray) (w : World) (hB : B ≤ w.heap.size) (hl : l.length ≤ 1000000) (hf0 : 0 < f.size) (hf : f.size ≤ 600) (h : OwnsStrs w B v l) :
    Calls Tryd.prog 31 #[v, .string f] w (Appended B v l f w) := by
  obtain ⟨i0, hi0, hz0, hz1, hz2⟩ := info_parts Tryd.infoString
  have he : f.toList.isEmpty = false := by
    rw [Lib.toList_data]
    cases hd : f.data.toList with
    | nil =>
      have h1 : f.data.toList.length = f.size := by simp
      rw [hd] at h1
      simp at h1
      omega
    | cons a t => rfl
  have HO := Lib.hid h
  clear h
  go_enter Tryd.func31, Tryd.ntmps31
  go_wp2_with fail
  refine (clone_any _ _ hf).mono ?_
  rintro e w1 ⟨rfl, hb1⟩
  have H1 := Lib.hid (HO.out.below hb1)
  have hsz := hb1.size
  go_wp2_with (at_builtin; refine wpList_append_lies _ rfl _ _ _ rfl B 9 i0 _ 1 16 Tryd.underlying31 hi0 hz0 hz1 hz2 rfl (by omega) v _ _ (by rfl) (H1.out.alloc _) ⟨w1.heap.size, 0, none⟩ 1 1 [.string f] (by rfl) (by rfl) (World.news_of_block (cs := #[.string f]) (t := 9) (fr := (0, 0)) (heap_alloc_new w1 _)) (by simp [Value.oneCell']) (by omega) (by unfold maxLen; omega) (by omega) (by simp; omega) (w1.heap.size + 1) (by simp) ?_; intro gg cap w2 hown1 hgrow hat hgl)
  go_ret
  refine ⟨_, rfl, snoc_own hown1, ?_⟩
  exact ⟨hgrow.os.trans hb1.os, hgrow.tape.trans hb1.tape, hgrow.output.trans hb1.output, by have := hgrow.size; simp at this; omega, fun k hk hne => (hgrow.block k (by simp; omega) hne).trans ((Below.heap_alloc _ _ _ (by omega)).trans (hb1.block k hk))⟩
/-- The relation of the program's loop. -/
def SplitRel2 (s : ByteArray) (w : World) (v b i : Value) (wr : World) : Prop :=
  ∃ k : Nat, k ≤ s.size ∧ i = .int .i64 k ∧ b = .int .i64 (begTo s k) ∧ okTo s k = true ∧ OwnsStrs wr w.heap.size v (outTo s k) ∧ Below w.heap.size w wr

theorem appended_below {w wr w1 : World} {v : Value} {l : List ByteArray} (hown : OwnsStrs wr w.heap.size v l) (hbel : Below w.heap.size w wr) (hg : wr.grownBy w1 v.ownBlock) : Below w.heap.size w w1 :=
  hbel.grown hg hbel.size (fun k hk => (hown.lt k hk).1)

set_option maxRecDepth 100000 in
set_option maxHeartbeats 800000 in
theorem implSplit (s : ByteArray) (w : World) (hs : s.size ≤ 600) :
    Calls Tryd.prog 16 #[.string s] w (SplitPost s w) := by
  go_enter Tryd.func16, Tryd.ntmps16
  go_wp2_with fail
  go_step3
  go_wp2_with fail
  go_step3
  go_wp2_with fail
  go_loopw [4, 5, 6] (fun v b i wr => SplitRel2 s w v b i wr) (fun _ _ i _ => s.size - (intOf i).toNat)
  case atStart => exact ⟨0, by omega, rfl, rfl, rfl, owns_nil _ _, Below.refl _ _⟩
  case round =>
    obtain ⟨k, hk, rfl, rfl, hok, hown, hbel⟩ := hrel
    have hbk := begTo_le s k
    have hol := outTo_len s k
    have HK := Lib.hid hok
    have HO := Lib.hid hown
    clear hok hown
    by_cases hlt : k < s.size
    · have hj0 : (0 : Int) ≤ (k : Int) := Int.natCast_nonneg _
      have hb1 : 0 ≤ (s[k].toNat : Int) ∧ (s[k].toNat : Int) ≤ 255 := by have := s[k].toNat_lt; omega
      by_cases hc1 : (s[k].toNat : Int) < 32
      · go_wp2_with fail
        try rw [Exit.noGoto_ret]
        go_ret2
        exact split_no (.inl (okTo_bad s k hlt (okB_no _ (.inl hc1)))) (owns_nil _ _) hbel
      · by_cases hc2 : 126 < (s[k].toNat : Int)
        · go_wp2_with fail
          try rw [Exit.noGoto_ret]
          go_ret2
          exact split_no (.inl (okTo_bad s k hlt (okB_no _ (.inr hc2)))) (owns_nil _ _) hbel
        · have HB := Lib.hid (ok_step hlt HK.out (okB_yes s[k] (by omega) (by omega)))
          by_cases hc3 : (s[k].toNat : Int) = 32
          · have HC := Lib.hid ((chAt_in s k hlt).trans ((ch32 _).2 hc3))
            have hne : ((s[k].toNat : Int) == 32) = true := by simp [hc3]
            clear hc3
            by_cases hbg : begTo s k < k
            · have hfs : 0 < (s.extract (begTo s k) k).size := by simp; omega
              have hfs2 : (s.extract (begTo s k) k).size ≤ 600 := by simp; omega
              go_wp2_with fail
              refine (appendField_more _ w.heap.size _ _ _ hbel.size (by omega) hfs hfs2 HO.out).mono ?_
              rintro e w1 ⟨v1, rfl, hown1, hgrow⟩
              have HW := Lib.hid hown1
              clear hown1 hfs hfs2
              go_wp2_with fail
              refine ⟨⟨k + 1, by omega, by go_num, ?_, HB.out, ?_, appended_below HO.out hbel hgrow⟩, by simp [intOf]; omega⟩
              · rw [beg_new HC.out]; go_num
              · rw [out_app HC.out hbg]; exact HW.out
            · have hfs : (s.extract (begTo s k) k).size = 0 := by simp; omega
              have HF := Lib.hid hfs
              clear hfs
              go_wp2_with fail
              refine (appendField_empty _ _ _ HF.out).mono ?_
              rintro e w1 ⟨rfl, rfl⟩
              go_wp2_with fail
              refine ⟨⟨k + 1, by omega, by go_num, ?_, HB.out, ?_, hbel⟩, by simp [intOf]; omega⟩
              · rw [beg_new HC.out]; go_num
              · rw [out_same (.inr hbg)]; exact HO.out
          · have HC := Lib.hid (show chAt s k ≠ 32 by rw [chAt_in s k hlt]; exact fun e => hc3 ((ch32 _).1 e))
            have hne : ((s[k].toNat : Int) == 32) = false := by simp [hc3]
            clear hc3
            go_wp2_with fail
            refine ⟨⟨k + 1, by omega, by go_num, ?_, HB.out, ?_, hbel⟩, by simp [intOf]; omega⟩
            · rw [beg_same HC.out]
            · rw [out_same (.inl HC.out)]; exact HO.out
    · obtain rfl : k = s.size := by omega
      have HC := Lib.hid (chAt_out s s.size (Nat.le_refl _))
      have hlen := outTo_len s (s.size + 1)
      by_cases hbg : begTo s s.size < s.size
      · have hfs : 0 < (s.extract (begTo s s.size) s.size).size := by simp; omega
        have hfs2 : (s.extract (begTo s s.size) s.size).size ≤ 600 := by simp; omega
        go_wp2_with fail
        refine (appendField_more _ w.heap.size _ _ _ hbel.size (by omega) hfs hfs2 HO.out).mono ?_
        rintro e w1 ⟨v1, rfl, hown1, hgrow⟩
        rw [← out_app HC.out hbg] at hown1
        have hbel1 := appended_below HO.out hbel hgrow
        clear hfs hfs2 hgrow
        obtain ⟨a, cap, rfl⟩ := hown1.len
        have HW := Lib.hid hown1
        clear hown1
        by_cases hbig : 24 < (outTo s (s.size + 1)).length
        · go_wp2_with fail
          try rw [Exit.noGoto_ret]
          go_ret2
          exact split_no (.inr hbig) (owns_nil _ _) hbel1
        · go_wp2_with fail
          try rw [Exit.noGoto_ret]
          go_ret2
          exact split_yes HK.out (by omega) HW.out hbel1
      · have hfs : (s.extract (begTo s s.size) s.size).size = 0 := by simp; omega
        have HF := Lib.hid hfs
        clear hfs
        go_wp2_with fail
        refine (appendField_empty _ _ _ HF.out).mono ?_
        rintro e w1 ⟨rfl, rfl⟩
        have HW := Lib.hid (show OwnsStrs wr w.heap.size u4 (outTo s (s.size + 1)) by rw [out_same (.inr hbg)]; exact HO.out)
        obtain ⟨a, cap, hv⟩ := HW.out.len
        subst hv
        by_cases hbig : 24 < (outTo s (s.size + 1)).length
        · go_wp2_with fail
          try rw [Exit.noGoto_ret]
          go_ret2
          exact split_no (.inr hbig) (owns_nil _ _) hbel
        · go_wp2_with fail
          try rw [Exit.noGoto_ret]
          go_ret2
          exact split_yes HK.out (by omega) HW.out hbel
/-- An answer of SplitFields: a slice of the call's own that holds l, and b. -/
def SplitGives (l : List ByteArray) (b : Bool) (w : World) (e : Ending) (w' : World) : Prop :=
  ∃ v, e = .returned (.tuple #[v, .bool b]) ∧ OwnsStrs w' w.heap.size v l ∧ Below w.heap.size w w'

theorem specSplit_long (s : ByteArray) (w : World) (hm : s.size ≤ 9223372036854775807) (hs : 600 < s.size) :
    Calls Tryd.prog 17 #[.string s] w (SplitGives [] false w) := by
  go_enter Tryd.func17, Tryd.ntmps17
  go_wp2_with fail
  go_ret2
  exact ⟨_, rfl, owns_made w (Nat.le_refl _), (Below.refl _ _).alloc (Nat.le_refl _) _⟩
theorem implSplit_long (s : ByteArray) (w : World) (hm : s.size ≤ 9223372036854775807) (hs : 600 < s.size) :
    Calls Tryd.prog 16 #[.string s] w (SplitGives [] false w) := by
  go_enter Tryd.func16, Tryd.ntmps16
  go_wp2_with fail
  go_step3
  go_wp2_with fail
  try rw [Exit.noGoto_ret]
  go_ret2
  exact ⟨_, rfl, owns_nil _ _, Below.refl _ _⟩

/-- Both give the same, at every line. -/
theorem split_both (s : ByteArray) (hm : s.size ≤ 9223372036854775807) : ∃ (l : List ByteArray) (b : Bool), l.length ≤ 24 ∧
    (∀ w, Calls Tryd.prog 17 #[.string s] w (SplitGives l b w)) ∧ ∀ w, Calls Tryd.prog 16 #[.string s] w (SplitGives l b w) := by
  by_cases hs : 600 < s.size
  · exact ⟨[], false, by simp, fun w => specSplit_long s w hm hs, fun w => implSplit_long s w hm hs⟩
  · refine ⟨(splitOf s).1, (splitOf s).2, ?_, fun w => (specSplit s w (by omega)).mono fun e w' h => h, fun w => (implSplit s w (by omega)).mono fun e w' h => h⟩
    unfold splitOf
    split
    · rename_i h; exact h.2
    · simp
end Go.Proofs.YtibdmidinopppaaDoor
