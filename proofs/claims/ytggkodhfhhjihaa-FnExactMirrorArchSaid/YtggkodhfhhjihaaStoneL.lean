/- Stones in the laws: a stone as it comes in, its size, its copy, the comparison of stones. -/
import Derived.Test.YtggkodhfhhjihaaStoneC
import Derived.Test.YtggkodhfhhjihaaPtS
namespace Go.Proofs.Ytggkodhfhhjihaa
open Go.ChangeShapes Go.WideShapes Go.ChangeAt Go.RowKit Go.Joins Go.Deep


theorem ad1 (a : Addr) : (⟨a.block, a.off + 1, none⟩ : Addr) = a.add 1 := rfl
theorem adb (a : Addr) (i : Nat) : (a.add i).block = a.block := by unfold Addr.add; split <;> rfl

/-- Points as far as they have been copied. -/
def flatTo (cs : List (Int × Int)) (k : Nat) : List Value := flat (cs.take k) ++ List.replicate ((cs.length - k) * 2) (.int .i64 0)
theorem flatTo_zero (cs : List (Int × Int)) : flatTo cs 0 = List.replicate (cs.length * 2) (.int .i64 0) := by simp [flatTo, flat_nil]
theorem flatTo_end (cs : List (Int × Int)) : flatTo cs cs.length = flat cs := by simp [flatTo]
theorem flatTo_next (cs : List (Int × Int)) (k : Nat) (h : k < cs.length) : ((flatTo cs k).set (k * 2) (.int .i64 (pt cs k).1)).set (k * 2 + 1) (.int .i64 (pt cs k).2) = flatTo cs (k + 1) := by
  have hl : (flat (cs.take k)).length = k * 2 := by rw [flat_length, List.length_take]; omega
  unfold flatTo
  rw [show (cs.length - k) * 2 = (cs.length - (k + 1)) * 2 + 1 + 1 by omega, List.replicate_succ, List.replicate_succ]
  rw [List.set_append_right _ _ (by omega), hl, Nat.sub_self, List.set_cons_zero, List.set_append_right _ _ (by omega), hl, show k * 2 + 1 - k * 2 = 1 by omega, List.set_cons_succ, List.set_cons_zero]
  rw [List.take_succ_eq_append_getElem h, flat_append, List.append_assoc]
  have : pt cs k = cs[k] := by unfold pt; rw [List.getD_eq_getElem?_getD, List.getElem?_eq_getElem h]; rfl
  rw [this]
  rfl

theorem flatTo_at (cs : List (Int × Int)) (k : Nat) (h : k < cs.length) : (flatTo cs k)[k * 2]? = some (.int .i64 0) ∧ (flatTo cs k)[k * 2 + 1]? = some (.int .i64 0) := by
  have hl : (flat (cs.take k)).length = k * 2 := by rw [flat_length, List.length_take]; omega
  unfold flatTo
  rw [List.getElem?_append_right (by omega), List.getElem?_append_right (by omega), hl, List.getElem?_replicate, List.getElem?_replicate, if_pos (by omega), if_pos (by omega)]
  exact ⟨rfl, rfl⟩

theorem made_zero (n : Nat) : (madeCells (Value.agg #[.int .i64 0, .int .i64 0]).cells n).toList = List.replicate n (Value.int .i64 0) := by
  unfold madeCells
  rw [Array.toList_map]
  refine List.ext_getElem (by simp) fun i h1 h2 => ?_
  rw [List.getElem_map, List.getElem_replicate]
  have : i % 2 = 0 ∨ i % 2 = 1 := by omega
  simp [Value.cells]
  rcases this with h | h <;> simp [h]

theorem Try.infoPt : (Try.prog.info? 48).map (fun i => (i.zero, i.size, i.bytes)) = some (some (.agg #[.int .i64 0, .int .i64 0]), 2, 16) := by kernel_rfl


set_option maxHeartbeats 400000 in
/-- Two rows of the same points are told equal. -/
theorem eqPointS_rows (w : World) (B1 g1 cap1 B2 g2 cap2 n : Nat) (cs : List (Int × Int)) (hn : cs.length = n) (h1 : RowAt w B1 g1 cap1 cs) (h2 : RowAt w B2 g2 cap2 cs) :
    Calls Try.prog 35 #[.slice (some ⟨g1, 0, none⟩) n cap1, .slice (some ⟨g2, 0, none⟩) n cap2] w fun e w' => e = .returned (.bool true) ∧ Below w.heap.size w w' := by
  obtain ⟨-, hg1, hc1, hm1⟩ := h1.lt
  obtain ⟨-, hg2, hc2, hm2⟩ := h2.lt
  unfold maxLen at hm1
  have H1 := Lib.hid h1
  have H2 := Lib.hid h2
  have HN := Lib.hid hn
  rw [hn] at hc1 hc2
  clear h1 h2 hn
  go_enter Try.func35, Try.ntmps35
  go_wp2_with fail
  go_loopw [5] (fun t wr => ∃ k : Nat, k ≤ n ∧ t = .int .i64 k ∧ Below w.heap.size w wr)
    (fun t _ => n - (intOf t).toNat)
  case atStart => exact ⟨0, Nat.zero_le _, rfl, Below.refl _ _⟩
  case round =>
    obtain ⟨k, hk, rfl, hbw⟩ := hrel
    have HB := Lib.hid hbw
    by_cases hlt : k < n
    · have hlN := HN.out
      obtain ⟨a0, a1⟩ := (H1.out.below hbw).cells k (by omega)
      obtain ⟨b0, b1⟩ := (H2.out.below hbw).cells k (by omega)
      generalize (pt cs k).1 = px at *
      generalize (pt cs k).2 = py at *
      clear hbw hlN
      go_wp2_with fail
      have hn1 := Since.nonempty wr
      have hz := HB.out.size
      have sa0 := fun (x : Since wr) => (x.cell g1 (k * 2) (by omega)).trans a0
      have sa1 := fun (x : Since wr) => (x.cell g1 (k * 2 + 1) (by omega)).trans a1
      have sb0 := fun (x : Since wr) => (x.cell g2 (k * 2) (by omega)).trans b0
      have sb1 := fun (x : Since wr) => (x.cell g2 (k * 2 + 1) (by omega)).trans b1
      refine wp_region_since (by kernel_rfl) (by kernel_rfl) ?_
      repeat (go_big_quiet_step (first
        | (go_at_call 50; exact Since.call (eqPoint_same _ _ _))))
      refine wpQuiet_nil ?_
      rintro w2 ⟨⟨_, hb2⟩, rfl⟩
      have HB2 := Lib.hid (HB.out.trans (hb2.mono hz))
      clear sa0 sa1 sb0 sb1 hb2 a0 a1 b0 b1
      go_wp2_with fail
      go_roundw
      case rel => exact ⟨k + 1, by omega, by go_num, HB2.out⟩
      case measure => simp [intOf]; omega
    · obtain rfl : k = n := by omega
      clear hbw
      go_wp2_with fail
      go_ret
      exact ⟨rfl, HB.out⟩

/-- No points are told equal to no points. -/
theorem eqPointS_none (w : World) (a1 a2 : Option Addr) (cap1 cap2 : Nat) :
    Calls Try.prog 35 #[.slice a1 0 cap1, .slice a2 0 cap2] w fun e w' => e = .returned (.bool true) ∧ Below w.heap.size w w' := by
  go_enter Try.func35, Try.ntmps35
  go_wp2_with fail
  refine wp_loop_rounds 1 ?_
  rw [rounds_succ]
  go_wp2
  go_ret
  exact ⟨rfl, Below.refl _ _⟩

theorem eqPointS_same (w : World) (B1 B2 : Nat) (v1 v2 : Value) (cs : List (Int × Int)) (h1 : Row w B1 v1 cs) (h2 : Row w B2 v2 cs) :
    Calls Try.prog 35 #[v1, v2] w fun e w' => e = .returned (.bool true) ∧ Below w.heap.size w w' := by
  rcases h1.cases with ⟨rfl, rfl⟩ | ⟨g1, cap1, rfl, r1, -⟩
  · rcases h2.cases with ⟨rfl, -⟩ | ⟨g2, cap2, rfl, r2, -⟩
    · exact eqPointS_none _ _ _ _ _
    · exact eqPointS_none _ _ _ _ _
  · rcases h2.cases with ⟨rfl, rfl⟩ | ⟨g2, cap2, rfl, r2, -⟩
    · exact eqPointS_none _ _ _ _ _
    · exact eqPointS_rows _ _ _ _ _ _ _ _ cs rfl r1 r2

theorem eqStone_same (w : World) (B1 B2 : Nat) (v1 v2 : Value) (cs : List (Int × Int)) (h1 : Row w B1 v1 cs) (h2 : Row w B2 v2 cs) :
    Calls Try.prog 18 #[.agg #[v1], .agg #[v2]] w fun e w' => e = .returned (.bool true) ∧ Below w.heap.size w w' := by
  have hv1 : ∃ a1 n1 c1, v1 = .slice a1 n1 c1 := by rcases h1.cases with ⟨rfl, -⟩ | ⟨g1, cap1, rfl, -⟩ <;> exact ⟨_, _, _, rfl⟩
  have hv2 : ∃ a2 n2 c2, v2 = .slice a2 n2 c2 := by rcases h2.cases with ⟨rfl, -⟩ | ⟨g2, cap2, rfl, -⟩ <;> exact ⟨_, _, _, rfl⟩
  obtain ⟨a1, n1, c1, rfl⟩ := hv1
  obtain ⟨a2, n2, c2, rfl⟩ := hv2
  have H1 := Lib.hid h1
  have H2 := Lib.hid h2
  clear h1 h2
  go_enter Try.func18, Try.ntmps18
  go_wp2_with fail
  have hb0 := ((Below.refl w.heap.size w).alloc (Nat.le_refl _) (.cells #[.slice a1 n1 c1] 36) |>.alloc (by simp) (.cells #[.slice a2 n2 c2] 36))
  refine (eqPointS_same _ _ _ _ _ cs (H1.out.below hb0) (H2.out.below hb0)).mono ?_
  rintro e w1 ⟨rfl, hb1⟩
  have hb2 := hb0.trans (hb1.mono (by simp <;> omega))
  go_wp2_with fail
  go_ret
  exact ⟨rfl, hb2⟩
end Go.Proofs.Ytggkodhfhhjihaa
