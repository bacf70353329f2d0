/- The draw of a condition that need not be valid. -/
import Derived.Test.YtidmhpeaehmmhaaDoorRowD
import Derived.Test.YtidmhpeaehmmhaaDoorProofJ
namespace Go.Proofs.YtidmhpeaehmmhaaDoor
set_option maxRecDepth 100000
open Go.ChangeShapes Go.WideShapes Go.ChangeAt Go.RowKit
set_option linter.unusedSimpArgs false

/-- Four ints were drawn; the cursor is as good as before; nothing else that was there was written. -/
def DrawnFour (bc : Nat) (a : Option Addr) (n cap : Nat) (w : World) (e : Ending) (w' : World) : Prop :=
  ∃ x y z u : Int, e = .returned (.agg #[.int .i64 x, .int .i64 y, .int .i64 z, .int .i64 u]) ∧ CurOk w' bc a n cap ∧ w.grownBy w' (some bc)
theorem SBox.grown {w w' : World} {H : Nat} {a b c d : Int} {row : Option Nat} (x : SBox w H a b c d) (hg : w.grownBy w' row) (hne : some H ≠ row) : SBox w' H a b c d := by
  obtain ⟨⟨h0, h1, h2, h3⟩, f0, f1, f2, f3⟩ := x
  have hl : H < w.heap.size := cell_block_lt h0
  have hf : ∀ o, w'.frozen? ⟨H, o, none⟩ = w.frozen? ⟨H, o, none⟩ := fun o => World.frozen?_of_block (hg.block H hl hne)
  exact ⟨⟨hg.cell h0 hne, hg.cell h1 hne, hg.cell h2 hne, hg.cell h3 hne⟩, (hf 0).trans f0, (hf 1).trans f1, (hf 2).trans f2, (hf 3).trans f3⟩
theorem sbox_new (w : World) (a b c d : Int) (t : TypeId) : SBox (w.alloc (.cells #[.int .i64 a, .int .i64 b, .int .i64 c, .int .i64 d] t)) w.heap.size a b c d := by
  refine ⟨⟨?_, ?_, ?_, ?_⟩, ?_, ?_, ?_, ?_⟩ <;> go_simp
theorem SBox.lt {w : World} {H : Nat} {a b c d : Int} (x : SBox w H a b c d) : H < w.heap.size := cell_block_lt x.1.1
/-- Four stores into a box of the call's own. -/
theorem new4 {w wr : World} {bc H : Nat} {a : Option Addr} {n cap : Nat} (hc : CurOk wr bc a n cap) (hg : w.grownBy wr (some bc)) (hH : w.heap.size ≤ H) (hlt : bc < w.heap.size) (hcode : 0 < n → ∀ x, a = some x → x.block < w.heap.size) (v0 v1 v2 v3 : Value) :
    CurOk ((((wr.setCell ⟨H, 0, none⟩ v0).setCell ⟨H, 1, none⟩ v1).setCell ⟨H, 2, none⟩ v2).setCell ⟨H, 3, none⟩ v3) bc a n cap ∧ w.grownBy ((((wr.setCell ⟨H, 0, none⟩ v0).setCell ⟨H, 1, none⟩ v1).setCell ⟨H, 2, none⟩ v2).setCell ⟨H, 3, none⟩ v3) (some bc) := by
  have G3 := grown_set (grown_set (grown_set (grown_setCell wr H 0 v0) 1 v1) 2 v2) 3 v3
  exact ⟨hc.kept_new G3 (B := w.heap.size) (fun k hk => by cases hk; exact hH) hlt hcode, grown_new hg G3 (fun k hk => by cases hk; exact hH)⟩
theorem new1 {w wr : World} {bc H : Nat} {a : Option Addr} {n cap : Nat} (hc : CurOk wr bc a n cap) (hg : w.grownBy wr (some bc)) (hH : w.heap.size ≤ H) (hlt : bc < w.heap.size) (hcode : 0 < n → ∀ x, a = some x → x.block < w.heap.size) (o : Nat) (v : Value) :
    CurOk (wr.setCell ⟨H, o, none⟩ v) bc a n cap ∧ w.grownBy (wr.setCell ⟨H, o, none⟩ v) (some bc) := by
  have G3 := grown_setCell wr H o v
  exact ⟨hc.kept_new G3 (B := w.heap.size) (fun k hk => by cases hk; exact hH) hlt hcode, grown_new hg G3 (fun k hk => by cases hk; exact hH)⟩
theorem ints_at4 (w : World) (x y z u : Int) (hx : I64 x) (hy : I64 y) (hz : I64 z) (hu : I64 u) (t : TypeId) : IntsAt (w.alloc (.cells #[.int .i64 x, .int .i64 y, .int .i64 z, .int .i64 u] t)) w.heap.size 4 := by
  intro k hk
  match k, hk with
  | 0, _ => exact ⟨x, hx, by go_simp⟩
  | 1, _ => exact ⟨y, hy, by go_simp⟩
  | 2, _ => exact ⟨z, hz, by go_simp⟩
  | 3, _ => exact ⟨u, hu, by go_simp⟩
theorem ints_at3 (w : World) (x y z : Int) (hx : I64 x) (hy : I64 y) (hz : I64 z) (t : TypeId) : IntsAt (w.alloc (.cells #[.int .i64 x, .int .i64 y, .int .i64 z] t)) w.heap.size 3 := by
  intro k hk
  match k, hk with
  | 0, _ => exact ⟨x, hx, by go_simp⟩
  | 1, _ => exact ⟨y, hy, by go_simp⟩
  | 2, _ => exact ⟨z, hz, by go_simp⟩
theorem i64_lit {x : Int} (h : -9223372036854775808 ≤ x ∧ x ≤ 9223372036854775807) : I64 x := h

set_option maxHeartbeats 4000000 in
theorem four_any (w : World) (bc : Nat) (a : Option Addr) (n cap : Nat) (hc : CurOk w bc a n cap) :
    Calls Tryd.prog 28 #[.pointer (some ⟨bc, 0, none⟩)] w (DrawnFour bc a n cap w) := by
  have hlt := hc.lt
  have hcode := hc.code_lt
  have HLT := Lib.hid hlt
  have HCODE := Lib.hid hcode
  have HS0 := Lib.hid (sbox_new w 0 0 0 0 41)
  have hc0 := hc.alloc (.cells #[.int .i64 0, .int .i64 0, .int .i64 0, .int .i64 0] 41)
  have HG0 := Lib.hid (World.grownBy_alloc w (.cells #[.int .i64 0, .int .i64 0, .int .i64 0, .int .i64 0] 41) (some bc))
  clear hc hcode
  go_enter Tryd.func28, Tryd.ntmps28
  go_wp2_with fail
  refine (row_any _ _ _ _ _ hc0).mono ?_
  rintro e w1 ⟨x, y, z, u, -, rfl, hc1, hg1⟩
  have hs1 := HS0.out.grown hg1 (by simp; omega)
  have hg1' := grown_trans HG0.out hg1
  have HG1 := Lib.hid (grown_trans hg1' (World.grownBy_alloc w1 (.cells #[.int .i64 x, .int .i64 y, .int .i64 z, .int .i64 u] 41) (some bc)))
  have hc2 := hc1.alloc (.cells #[.int .i64 x, .int .i64 y, .int .i64 z, .int .i64 u] 41)
  have HS1 := Lib.hid (hs1.below (alloc_b w1 (.cells #[.int .i64 x, .int .i64 y, .int .i64 z, .int .i64 u] 41)))
  have HR1 := Lib.hid (sbox_new w1 x y z u 41)
  have hw1 : w.heap.size < w1.heap.size := hs1.lt
  clear hc0 hc1 hg1 hg1' hs1 HS0 HG0
  go_wp2_with fail
  refine (below_any _ _ _ _ _ _ (by omega) hc2).mono ?_
  rintro e w2 ⟨k, ⟨hk0, hk1, -⟩, rfl, hc3, hg3⟩
  have HS2 := Lib.hid (HS1.out.grown hg3 (by simp; omega))
  obtain ⟨b, hb⟩ : ∃ b, b = w1.heap.size := ⟨_, rfl⟩
  rw [← hb] at HR1 hw1 ⊢
  have HR2 := Lib.hid (HR1.out.grown hg3 (by simp; omega))
  have HG2 := Lib.hid (grown_trans HG1.out hg3)
  have HC2 := Lib.hid hc3
  clear hc2 hg3 hk1 HS1 HR1 HG1 hb hc3
  obtain ⟨⟨s0, s1, s2, s3⟩, t0, t1, t2, t3⟩ := id HS2.out
  obtain ⟨⟨r0, r1, r2, r3⟩, f0, f1, f2, f3⟩ := id HR2.out
  have hbl := HR2.out.lt
  have hHb : w.heap.size ≠ b := by omega
  by_cases e0 : k = 0
  · subst e0
    go_wp2_with fail
    refine (pickInt_any _ bc a n cap w2.heap.size 4 4 (by omega) (by omega) (by omega) (ints_at4 _ _ _ _ _ (i64_lit (by omega)) (i64_lit (by omega)) (i64_lit (by omega)) (i64_lit (by omega)) _) (HC2.out.alloc _)).mono ?_
    rintro e w3 ⟨v, -, rfl, hc4, hg4⟩
    have hgA := grown_trans (World.grownBy_alloc w2 (.cells #[.int .i64 (-101), .int .i64 (-100), .int .i64 100, .int .i64 101] 3) (some bc)) hg4
    have HS3 := Lib.hid (HS2.out.grown hgA (by simp; omega))
    have HR3 := Lib.hid (HR2.out.grown hgA (by simp; omega))
    have hg5 := grown_trans HG2.out hgA
    have h1 := new1 (H := b) hc4 hg5 (Nat.le_of_lt hw1) HLT.out HCODE.out 0 (.int .i64 v)
    have h4 := new4 (H := w.heap.size) h1.1 h1.2 (Nat.le_refl _) HLT.out HCODE.out (.int .i64 v) (.int .i64 y) (.int .i64 z) (.int .i64 u)
    have H4 := Lib.hid h4
    clear hgA hg4 hg5 hc4 h1 h4 s0 s1 s2 s3 t0 t1 t2 t3 r0 r1 r2 r3 f0 f1 f2 f3
    obtain ⟨⟨s0, s1, s2, s3⟩, t0, t1, t2, t3⟩ := id HS3.out
    obtain ⟨⟨r0, r1, r2, r3⟩, f0, f1, f2, f3⟩ := id HR3.out
    have hl3 := HR3.out.lt
    go_wp2_with fail
    refine bodyPost_ret (v := .agg #[.int .i64 v, .int .i64 y, .int .i64 z, .int .i64 u]) (by simp [results, Tryd.results28, go_sem, s0, s1, s2, s3]) rfl ⟨_, _, _, _, rfl, H4.out.1, H4.out.2⟩
  by_cases e1 : k = 1
  · subst e1
    go_wp2_with fail
    refine (pickInt_any _ bc a n cap w2.heap.size 3 3 (by omega) (by omega) (by omega) (ints_at3 _ _ _ _ (i64_lit (by omega)) (i64_lit (by omega)) (i64_lit (by omega)) _) (HC2.out.alloc _)).mono ?_
    rintro e w3 ⟨v, -, rfl, hc4, hg4⟩
    have hgA := grown_trans (World.grownBy_alloc w2 (.cells #[.int .i64 (-2), .int .i64 2, .int .i64 1] 3) (some bc)) hg4
    have HS3 := Lib.hid (HS2.out.grown hgA (by simp; omega))
    have HR3 := Lib.hid (HR2.out.grown hgA (by simp; omega))
    have hg5 := grown_trans HG2.out hgA
    have h1 := new1 (H := b) hc4 hg5 (Nat.le_of_lt hw1) HLT.out HCODE.out 2 (.int .i64 v)
    have h4 := new4 (H := w.heap.size) h1.1 h1.2 (Nat.le_refl _) HLT.out HCODE.out (.int .i64 x) (.int .i64 y) (.int .i64 v) (.int .i64 u)
    have H4 := Lib.hid h4
    clear hgA hg4 hg5 hc4 h1 h4 s0 s1 s2 s3 t0 t1 t2 t3 r0 r1 r2 r3 f0 f1 f2 f3
    obtain ⟨⟨s0, s1, s2, s3⟩, t0, t1, t2, t3⟩ := id HS3.out
    obtain ⟨⟨r0, r1, r2, r3⟩, f0, f1, f2, f3⟩ := id HR3.out
    have hl3 := HR3.out.lt
    go_wp2_with fail
    refine bodyPost_ret (v := .agg #[.int .i64 x, .int .i64 y, .int .i64 v, .int .i64 u]) (by simp [results, Tryd.results28, go_sem, s0, s1, s2, s3]) rfl ⟨_, _, _, _, rfl, H4.out.1, H4.out.2⟩
  by_cases e2 : k = 2
  · subst e2
    go_wp2_with fail
    refine (pickInt_any _ bc a n cap w2.heap.size 3 3 (by omega) (by omega) (by omega) (ints_at3 _ _ _ _ (i64_lit (by omega)) (i64_lit (by omega)) (i64_lit (by omega)) _) (HC2.out.alloc _)).mono ?_
    rintro e w3 ⟨v, -, rfl, hc4, hg4⟩
    have hgA := grown_trans (World.grownBy_alloc w2 (.cells #[.int .i64 (-1000000001), .int .i64 1000000000, .int .i64 1000000001] 3) (some bc)) hg4
    have HS3 := Lib.hid (HS2.out.grown hgA (by simp; omega))
    have HR3 := Lib.hid (HR2.out.grown hgA (by simp; omega))
    have hg5 := grown_trans HG2.out hgA
    have h1 := new1 (H := b) hc4 hg5 (Nat.le_of_lt hw1) HLT.out HCODE.out 3 (.int .i64 v)
    have h4 := new4 (H := w.heap.size) h1.1 h1.2 (Nat.le_refl _) HLT.out HCODE.out (.int .i64 x) (.int .i64 y) (.int .i64 z) (.int .i64 v)
    have H4 := Lib.hid h4
    clear hgA hg4 hg5 hc4 h1 h4 s0 s1 s2 s3 t0 t1 t2 t3 r0 r1 r2 r3 f0 f1 f2 f3
    obtain ⟨⟨s0, s1, s2, s3⟩, t0, t1, t2, t3⟩ := id HS3.out
    obtain ⟨⟨r0, r1, r2, r3⟩, f0, f1, f2, f3⟩ := id HR3.out
    have hl3 := HR3.out.lt
    go_wp2_with fail
    refine bodyPost_ret (v := .agg #[.int .i64 x, .int .i64 y, .int .i64 z, .int .i64 v]) (by simp [results, Tryd.results28, go_sem, s0, s1, s2, s3]) rfl ⟨_, _, _, _, rfl, H4.out.1, H4.out.2⟩
  have n0 : (k == 0) = false := by simpa using e0
  have n1 : (k == 1) = false := by simpa using e1
  have n2 : (k == 2) = false := by simpa using e2
  have H4 := Lib.hid (new4 (H := w.heap.size) HC2.out HG2.out (Nat.le_refl _) HLT.out HCODE.out (.int .i64 x) (.int .i64 y) (.int .i64 z) (.int .i64 u))
  go_wp2_with fail
  refine bodyPost_ret (v := .agg #[.int .i64 x, .int .i64 y, .int .i64 z, .int .i64 u]) (by simp [results, Tryd.results28, go_sem, s0, s1, s2, s3]) rfl ⟨_, _, _, _, rfl, H4.out.1, H4.out.2⟩
end Go.Proofs.YtidmhpeaehmmhaaDoor
