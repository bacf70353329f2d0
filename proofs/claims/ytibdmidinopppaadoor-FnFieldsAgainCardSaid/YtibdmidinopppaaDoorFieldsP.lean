/- The fields of a line, each followed by one space, have the same fields: plain facts. -/
import Derived.Test.YtibdmidinopppaaDoorSplitC
namespace Go.Proofs.YtibdmidinopppaaDoor
open Go.ChangeShapes Go.WideShapes Go.ChangeAt Go.RowKit

/-- A field as SplitFields gives it. -/
def GoodF (f : ByteArray) : Prop := 0 < f.size ∧ f.size ≤ 600 ∧ ∀ c ∈ f.data.toList, c ≠ 32 ∧ okB c = true

/-- Behind k bytes no byte of the field that is being read is a space. -/
theorem beg_clean (s : ByteArray) (k j : Nat) (h1 : begTo s k ≤ j) (h2 : j < k) : chAt s j ≠ 32 := by
  induction k with
  | zero => omega
  | succ k ih =>
    unfold begTo at h1
    split at h1
    · omega
    · rename_i hc
      by_cases hj : j = k
      · subst hj; exact hc
      · exact ih h1 (by omega)

theorem okTo_at (s : ByteArray) (k j : Nat) (h : okTo s k = true) (h1 : j < k) (h2 : j < s.size) : okB (chAt s j) = true := by
  unfold okTo at h
  have hm : chAt s j ∈ s.data.toList.take k := by
    rw [List.mem_iff_getElem?]
    refine ⟨j, ?_⟩
    rw [List.getElem?_take_of_lt h1]
    unfold chAt
    rw [List.getD_eq_getElem?_getD, List.getElem?_eq_getElem (by simpa using h2)]
    rfl
  exact List.all_eq_true.1 h _ hm

theorem mem_extract {s : ByteArray} {a b : Nat} {c : UInt8} (hc : c ∈ (s.extract a b).data.toList) : ∃ j, a ≤ j ∧ j < b ∧ chAt s j = c := by
  rw [Lib.extract_data, List.mem_iff_getElem?] at hc
  obtain ⟨i, hi⟩ := hc
  rw [List.getElem?_take] at hi
  split at hi
  · rename_i hlt
    rw [List.getElem?_drop] at hi
    refine ⟨a + i, by omega, by omega, ?_⟩
    unfold chAt
    rw [List.getD_eq_getElem?_getD, hi]
    rfl
  · cases hi

theorem good_out (s : ByteArray) (k : Nat) (hs : s.size ≤ 600) (hk : k ≤ s.size + 1) (hok : okTo s s.size = true) : ∀ f ∈ outTo s k, GoodF f := by
  induction k with
  | zero => intro f hf; simp [outTo] at hf
  | succ k ih =>
    intro f hf
    unfold outTo at hf
    split at hf
    · rename_i h
      rcases List.mem_append.1 hf with hf | hf
      · exact ih (by omega) f hf
      · rw [List.mem_singleton] at hf
        subst hf
        have hsz : (s.extract (begTo s k) k).size = k - begTo s k := by simp; omega
        refine ⟨by omega, by omega, fun c hc => ?_⟩
        obtain ⟨j, h1, h2, rfl⟩ := mem_extract hc
        exact ⟨beg_clean s k j h1 h2, okTo_at s s.size j hok (by omega) (by omega)⟩
    · exact ih (by omega) f hf

/-- The fields, each followed by a space. -/
def joinB (F : List ByteArray) : List UInt8 := F.flatMap fun f => f.data.toList ++ [32]
theorem joinB_append (F G : List ByteArray) : joinB (F ++ G) = joinB F ++ joinB G := by simp [joinB]
theorem joinB_one (f : ByteArray) : joinB [f] = f.data.toList ++ [32] := by simp [joinB]

theorem beg_run (t : ByteArray) (p m : Nat) (h0 : begTo t p = p) (h : ∀ j, j < m → chAt t (p + j) ≠ 32) : begTo t (p + m) = p ∧ outTo t (p + m) = outTo t p := by
  induction m with
  | zero => exact ⟨h0, rfl⟩
  | succ m ih =>
    obtain ⟨i1, i2⟩ := ih (fun j hj => h j (by omega))
    have hc := h m (by omega)
    rw [show p + (m + 1) = (p + m) + 1 by omega, beg_same hc, out_same (.inl hc)]
    exact ⟨i1, i2⟩

theorem chAt_mid (A B : List UInt8) (f : ByteArray) (j : Nat) (hj : j < f.size) : chAt (strOf (A ++ (f.data.toList ++ B))) (A.length + j) ∈ f.data.toList := by
  have hj' : j < f.data.toList.length := by simpa using hj
  have e : (A ++ (f.data.toList ++ B))[A.length + j]? = some f.data.toList[j] := by
    rw [List.getElem?_append_right (by omega), show A.length + j - A.length = j by omega, List.getElem?_append_left hj', List.getElem?_eq_getElem hj']
  unfold chAt
  rw [List.getD_eq_getElem?_getD]
  show ((A ++ (f.data.toList ++ B))[A.length + j]?).getD 32 ∈ _
  rw [e]
  exact List.getElem_mem _

theorem chAt_sp (A B : List UInt8) (f : ByteArray) : chAt (strOf (A ++ (f.data.toList ++ 32 :: B))) (A.length + f.size) = 32 := by
  have hl : f.data.toList.length = f.size := by simp
  have e : (A ++ (f.data.toList ++ 32 :: B))[A.length + f.size]? = some 32 := by
    rw [List.getElem?_append_right (by omega), List.getElem?_append_right (by omega), show A.length + f.size - A.length - f.data.toList.length = 0 by omega]
    rfl
  unfold chAt
  rw [List.getD_eq_getElem?_getD]
  show ((A ++ (f.data.toList ++ 32 :: B))[A.length + f.size]?).getD 32 = _
  rw [e]
  rfl

theorem extract_mid (A B : List UInt8) (f : ByteArray) : (strOf (A ++ (f.data.toList ++ B))).extract A.length (A.length + f.size) = f := by
  apply bytes_inj
  rw [Lib.extract_data]
  have hl : f.data.toList.length = f.size := by simp
  show List.take _ (List.drop _ (A ++ (f.data.toList ++ B))) = _
  rw [List.drop_left, show A.length + f.size - A.length = f.data.toList.length by omega, List.take_left]

theorem join_state (F G : List ByteArray) (hF : ∀ f ∈ F, GoodF f) : begTo (strOf (joinB (F ++ G))) (joinB F).length = (joinB F).length ∧ outTo (strOf (joinB (F ++ G))) (joinB F).length = F := by
  induction h : F.length generalizing F G with
  | zero =>
    obtain rfl := List.eq_nil_of_length_eq_zero h
    exact ⟨rfl, rfl⟩
  | succ n ih =>
    obtain ⟨F', f, rfl⟩ : ∃ F' f, F = F' ++ [f] := ⟨F.dropLast, F.getLast (by intro e; simp [e] at h), (List.dropLast_concat_getLast _).symm⟩
    obtain ⟨i1, i2⟩ := ih F' ([f] ++ G) (fun g hg => hF g (List.mem_append_left _ hg)) (by simpa using h)
    rw [← List.append_assoc] at i1 i2
    obtain ⟨hf0, hf1, hfc⟩ := hF f (List.mem_append_right _ (List.mem_singleton.2 rfl))
    have e : joinB (F' ++ [f] ++ G) = joinB F' ++ (f.data.toList ++ 32 :: joinB G) := by
      rw [joinB_append, joinB_append, joinB_one]; simp
    have hlen : (joinB (F' ++ [f])).length = (joinB F').length + f.size + 1 := by
      rw [joinB_append, joinB_one]; simp; omega
    rw [e] at i1 i2 ⊢
    obtain ⟨r1, r2⟩ := beg_run _ (joinB F').length f.size i1 (fun j hj => (hfc _ (chAt_mid _ _ f j hj)).1)
    have hsp := chAt_sp (joinB F') (joinB G) f
    have hex := extract_mid (joinB F') (32 :: joinB G) f
    rw [hlen, beg_new hsp, out_app hsp (by rw [r1]; omega), r1, r2, i2, hex]
    exact ⟨rfl, rfl⟩

/-- The fields of a line, joined, have the same fields. -/
theorem split_join (F : List ByteArray) (hF : ∀ f ∈ F, GoodF f) (hl : F.length ≤ 24) : splitOf (strOf (joinB F)) = (F, true) := by
  have hs : (strOf (joinB F)).size = (joinB F).length := rfl
  obtain ⟨h1, h2⟩ := join_state F [] hF
  rw [List.append_nil] at h1 h2
  have hout : outTo (strOf (joinB F)) ((strOf (joinB F)).size + 1) = F := by
    rw [hs, out_same (.inr (by rw [h1]; omega)), h2]
  have hok : okTo (strOf (joinB F)) (strOf (joinB F)).size = true := by
    unfold okTo
    rw [take_all, List.all_eq_true]
    intro c hc
    have hc' : c ∈ joinB F := hc
    unfold joinB at hc'
    obtain ⟨f, hf, hcf⟩ := List.mem_flatMap.1 hc'
    rcases List.mem_append.1 hcf with h | h
    · exact ((hF f hf).2.2 c h).2
    · rw [List.mem_singleton] at h
      subst h
      decide
  unfold splitOf
  rw [hout, if_pos ⟨hok, hl⟩]

theorem joinB_len (F : List ByteArray) (hF : ∀ f ∈ F, GoodF f) : (joinB F).length ≤ 601 * F.length := by
  induction F with
  | nil => simp [joinB]
  | cons f F ih =>
    have h1 := (hF f (List.mem_cons_self ..)).2.1
    have h2 := ih (fun g hg => hF g (List.mem_cons_of_mem _ hg))
    have e : (joinB (f :: F)).length = f.size + 1 + (joinB F).length := by
      show (joinB ([f] ++ F)).length = _
      rw [joinB_append, joinB_one]; simp; omega
    simp only [List.length_cons]
    omega

/-- Both SplitFields give the same at every line; the fields that they give, joined, have the same fields, or the joined text is too long. -/
theorem split_again (s : ByteArray) (hm : s.size ≤ 9223372036854775807) : ∃ (l : List ByteArray) (b : Bool), l.length ≤ 24 ∧ (b = false → l = []) ∧ (∀ f ∈ l, GoodF f) ∧
    (∀ w, Calls Tryd.prog 17 #[.string s] w (SplitGives l b w)) ∧ (∀ w, Calls Tryd.prog 16 #[.string s] w (SplitGives l b w)) := by
  by_cases hs : 600 < s.size
  · exact ⟨[], false, by simp, fun _ => rfl, by simp, fun w => specSplit_long s w hm hs, fun w => implSplit_long s w hm hs⟩
  · refine ⟨(splitOf s).1, (splitOf s).2, ?_, ?_, ?_, fun w => (specSplit s w (by omega)).mono fun e w' h => h, fun w => (implSplit s w (by omega)).mono fun e w' h => h⟩
    · unfold splitOf
      split
      · rename_i h; exact h.2
      · simp
    · unfold splitOf
      split
      · intro h; cases h
      · intro _; rfl
    · unfold splitOf
      split
      · rename_i h; exact good_out s _ (by omega) (Nat.le_refl _) h.1
      · simp

/-- The joined text: too long, or the same fields again. -/
theorem impl_again (F : List ByteArray) (hF : ∀ f ∈ F, GoodF f) (hl : F.length ≤ 24) (w : World) (hs : (strOf (joinB F)).size ≤ 600) :
    Calls Tryd.prog 16 #[.string (strOf (joinB F))] w (SplitGives F true w) :=
  (implSplit _ w hs).mono fun e w' h => by
    unfold SplitPost at h
    rw [split_join F hF hl] at h
    exact h
end Go.Proofs.YtibdmidinopppaaDoor
