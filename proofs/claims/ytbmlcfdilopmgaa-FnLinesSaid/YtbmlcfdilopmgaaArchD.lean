/- Arches: the contract of the model's copy of an arch. -/
import Derived.Test.YtbmlcfdilopmgaaGArch
namespace Go.Proofs.Ytbmlcfdilopmgaa
set_option maxRecDepth 100000
open Go.ChangeShapes Go.WideShapes Go.ChangeAt Go.RowKit

theorem Try.infoJt : (Try.prog.info? 102).map (fun i => (i.zero, i.size, i.bytes)) = some (some (.agg #[.int .i64 0, .int .i64 0, .int .i64 0, .int .i64 0]), 4, 32) := by kernel_rfl

theorem one_flatJ (js : List Jt) : ∀ u ∈ flatJ js, u.oneCell' = true := by
  induction js with
  | nil => intro u hu; cases hu
  | cons j js ih =>
    intro u hu
    rw [flatJ_cons] at hu
    simp only [List.mem_cons] at hu
    rcases hu with rfl | rfl | rfl | rfl | hu
    · rfl
    · rfl
    · rfl
    · rfl
    · exact ih u hu

set_option maxHeartbeats 1000000 in
theorem l06Copy (w : World) (B g cap n : Nat) (js : List Jt) (hr : JRowAt w B g cap js) (hn : js.length = n) (h0 : 0 < n) (h8 : n ≤ 8) :
    Calls Try.prog 69 #[.agg #[.slice (some ⟨g, 0, none⟩) n cap]] w (NewArch js w) := by
  obtain ⟨i0, hi0, hz0, hz1, hz2⟩ := info_parts Try.infoJt
  have hlt := hr.lt
  have HR := Lib.hid hr
  clear hr
  have hb0 := (((Below.refl w.heap.size w).alloc (by simp) (.cells #[.slice (some ⟨g, 0, none⟩) n cap] 26)).alloc (by simp) (.cells #[.slice none 0 0] 26)).alloc (by simp <;> omega) (.cells #[] 102)
  have hcell : ∀ (j : Nat) u, (flatJ js)[j]? = some u → (((w.alloc (.cells #[.slice (some ⟨g, 0, none⟩) n cap] 26)).alloc (.cells #[.slice none 0 0] 26)).alloc (.cells #[] 102)).cell? ((⟨g, 0, none⟩ : Addr).add j) = some u := fun j u hu => by
    have hj : j < (flatJ js).length := (List.getElem?_eq_some_iff.1 hu).1
    rw [flatJ_length] at hj
    rw [Addr.add_lit, Nat.zero_add, World.ownsRow.cellAt (JRowAt.below HR.out hb0) j hj]
    exact hu
  have hown := World.ownsRow_lit (base := w.heap.size) (e := 102) (size := 4) ((w.alloc (.cells #[.slice (some ⟨g, 0, none⟩) n cap] 26)).alloc (.cells #[.slice none 0 0] 26)) #[] 0 (by simp; omega) (by unfold maxLen; omega) rfl
  simp only [World.size_alloc] at hown
  have HC := Lib.hid hcell
  have HO := Lib.hid hown
  have HB0 := Lib.hid hb0
  clear hcell hown hb0
  go_enter Try.func69, Try.ntmps69
  go_wp2_with (at_builtin; refine wpList_append_lies _ rfl _ _ _ rfl w.heap.size 102 i0 _ 4 32 Try.underlying24 hi0 hz0 hz1 hz2 rfl (by omega) (.slice (some ⟨w.heap.size + 1 + 1, 0, none⟩) 0 0) 0 [] (by rfl) HO.out ⟨g, 0, none⟩ n cap (flatJ js) (by rfl) (by rw [flatJ_length, hn]) HC.out (one_flatJ js) h0 (by unfold maxLen; omega) (by omega) (by simp; omega) (w.heap.size + 1 + 1 + 1) (by simp) ?_; intro gg cap2 w9 hown9 hgrow9 hat hgl; have r9 : w9.cell? ⟨w.heap.size + 1, 0, none⟩ = some (.slice none 0 0) := (World.grownBy.cell_far hgrow9 ⟨w.heap.size + 1, 0, none⟩ (by simp) (by simp [Value.ownBlock])).trans (by go_simp); have f9 : w9.frozen? ⟨w.heap.size + 1, 0, none⟩ = false := (World.grownBy.frozen_far hgrow9 ⟨w.heap.size + 1, 0, none⟩ (by simp) (by simp [Value.ownBlock])).trans (by go_simp))
  have hgg : gg ≠ w.heap.size + 1 := by
    rcases hat with h | h
    · simp [Value.ownBlock] at h; omega
    · omega
  refine bodyPost_ret (v := .agg #[.slice (some ⟨gg, 0, none⟩) n cap2]) (by simp [results, Try.results69, go_sem, r9]) rfl ⟨gg, cap2, by rw [hn], ?_, ?_⟩
  · rw [Nat.zero_add, List.nil_append] at hown9
    show World.ownsRow _ _ _ _ (.slice _ js.length cap2) js.length _
    rw [hn]
    exact ownsRow_setCell_other hown9 (a := ⟨w.heap.size + 1, 0, none⟩) (fun he => by simp [Value.ownBlock] at he; exact hgg he) _
  · refine Below.setCell ?_ (by show _ ≤ w.heap.size + 1; omega) _
    exact HB0.out.grown hgrow9 HB0.out.size (fun k hk => by simp [Value.ownBlock] at hk; omega)
end Go.Proofs.Ytbmlcfdilopmgaa
