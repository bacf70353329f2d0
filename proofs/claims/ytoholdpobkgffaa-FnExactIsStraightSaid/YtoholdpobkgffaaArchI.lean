/- Arches: the contracts of the program's buildArch, ArchOk, CountStones, SpanOf, RiseOf, StoneOf. -/
import Derived.Test.YtoholdpobkgffaaArchB
namespace Go.Proofs.Ytoholdpobkgffaa
set_option maxRecDepth 100000
open Go.ChangeShapes Go.WideShapes Go.ChangeAt Go.RowKit

theorem two_below (w : World) (cs ds : Array Value) (t u : TypeId) : Below w.heap.size w ((w.alloc (.cells cs t)).alloc (.cells ds u)) := ((Below.refl w.heap.size w).alloc (Nat.le_refl _) _).alloc (by simp) _

set_option maxHeartbeats 2000000 in
theorem buildNo (w : World) (B g cap n : Nat) (js : List Jt) (hr : JRowAt w B g cap js) (hn : js.length = n) (h : archV js = false) :
    Calls Try.prog 13 #[.agg #[.slice (some ⟨g, 0, none⟩) n cap]] w fun e w' => e = .returned (.tuple #[.agg #[.slice none 0 0, .slice none 0 0], .bool false]) ∧ Below w.heap.size w w' := by
  obtain ⟨-, hgw, hc, hm⟩ := hr.lt
  rw [hn] at hc
  unfold maxLen at hm
  have HB0 := Lib.hid (two_below w #[.slice (some ⟨g, 0, none⟩) n cap] #[.slice none 0 0, .slice none 0 0] 29 44)
  have HR := Lib.hid (hr.below HB0.out)
  have HN := Lib.hid hn
  have hp := archV_parts js
  rw [h, hn] at hp
  have HP := Lib.hid hp
  clear hr hn h hp
  by_cases h3 : n < 3
  · go_enter Try.func13, Try.ntmps13
    go_wp2_with fail
    refine bodyPost_ret (v := .tuple #[.agg #[.slice none 0 0, .slice none 0 0], .bool false]) (by simp [results, Try.results13, go_sem]) rfl ⟨rfl, ?_⟩
    repeat (first | exact HB0.out | refine Below.setCell ?_ (by simp <;> omega) _)
  by_cases h8 : 8 < n
  · go_enter Try.func13, Try.ntmps13
    go_wp2_with fail
    refine bodyPost_ret (v := .tuple #[.agg #[.slice none 0 0, .slice none 0 0], .bool false]) (by simp [results, Try.results13, go_sem]) rfl ⟨rfl, ?_⟩
    repeat (first | exact HB0.out | refine Below.setCell ?_ (by simp <;> omega) _)
  cases hg : allV (n - 1) (growV js)
  · have HG := Lib.hid hg
    clear hg
    go_enter Try.func13, Try.ntmps13
    go_wp2_with fail
    refine (rowGrows _ _ _ _ _ js HR.out HN.out (by omega) (by omega)).mono ?_
    rintro e w1 ⟨rfl, hb1⟩
    rw [HG.out]
    have c0 : w1.cell? ⟨w.heap.size + 1, 0, none⟩ = some (.slice none 0 0) := (hb1.cell (p := ⟨w.heap.size + 1, 0, none⟩) (by simp)).trans (by go_simp)
    have c1 : w1.cell? ⟨w.heap.size + 1, 1, none⟩ = some (.slice none 0 0) := (hb1.cell (p := ⟨w.heap.size + 1, 1, none⟩) (by simp)).trans (by go_simp)
    have f0 : w1.frozen? ⟨w.heap.size + 1, 0, none⟩ = false := (hb1.frozen (p := ⟨w.heap.size + 1, 0, none⟩) (by simp)).trans (by go_simp)
    have f1 : w1.frozen? ⟨w.heap.size + 1, 1, none⟩ = false := (hb1.frozen (p := ⟨w.heap.size + 1, 1, none⟩) (by simp)).trans (by go_simp)
    have HB1 := Lib.hid (HB0.out.trans (hb1.mono HB0.out.size))
    clear hb1
    go_wp2_with fail
    refine bodyPost_ret (v := .tuple #[.agg #[.slice none 0 0, .slice none 0 0], .bool false]) (by simp [results, Try.results13, go_sem, c0, c1]) rfl ⟨rfl, ?_⟩
    repeat refine Below.setCell ?_ (by show w.heap.size ≤ w.heap.size + 1; omega) _
    exact HB1.out
  · have hs : allV (n - 1) (betOk js) = false := by
      have := HP.out
      rw [hg, decide_eq_true (by omega)] at this
      simpa using this.symm
    have HG := Lib.hid hg
    have HS := Lib.hid hs
    clear hg hs
    go_enter Try.func13, Try.ntmps13
    go_wp2_with fail
    refine (rowGrows _ _ _ _ _ js HR.out HN.out (by omega) (by omega)).mono ?_
    rintro e w1 ⟨rfl, hb1⟩
    rw [HG.out]
    have c0 : w1.cell? ⟨w.heap.size + 1, 0, none⟩ = some (.slice none 0 0) := (hb1.cell (p := ⟨w.heap.size + 1, 0, none⟩) (by simp)).trans (by go_simp)
    have c1 : w1.cell? ⟨w.heap.size + 1, 1, none⟩ = some (.slice none 0 0) := (hb1.cell (p := ⟨w.heap.size + 1, 1, none⟩) (by simp)).trans (by go_simp)
    have f0 : w1.frozen? ⟨w.heap.size + 1, 0, none⟩ = false := (hb1.frozen (p := ⟨w.heap.size + 1, 0, none⟩) (by simp)).trans (by go_simp)
    have f1 : w1.frozen? ⟨w.heap.size + 1, 1, none⟩ = false := (hb1.frozen (p := ⟨w.heap.size + 1, 1, none⟩) (by simp)).trans (by go_simp)
    have HB1 := Lib.hid (HB0.out.trans (hb1.mono HB0.out.size))
    have HR1 := Lib.hid (HR.out.below hb1)
    clear hb1
    go_wp2_with fail
    refine (rowStones _ _ _ _ _ js HR1.out HN.out (by omega) (by omega)).mono ?_
    rintro e w2 ⟨sv, rfl, hsr, hb2⟩
    rw [HS.out]
    rw [HS.out] at hsr
    have hsr' : SRow w2 w1.heap.size sv [] := hsr
    obtain ⟨sa, sc, rfl, -⟩ := hsr'.slice
    have d0 := cell_kept c0 hb2
    have d1 := cell_kept c1 hb2
    have g0 : w2.frozen? ⟨w.heap.size + 1, 0, none⟩ = false := (hb2.frozen (p := ⟨w.heap.size + 1, 0, none⟩) (cell_block_lt c0)).trans f0
    have g1 : w2.frozen? ⟨w.heap.size + 1, 1, none⟩ = false := (hb2.frozen (p := ⟨w.heap.size + 1, 1, none⟩) (cell_block_lt c1)).trans f1
    have HB2 := Lib.hid (HB1.out.trans (hb2.mono HB1.out.size))
    clear hb2 hsr hsr' c0 c1 f0 f1
    go_wp2_with fail
    refine bodyPost_ret (v := .tuple #[.agg #[.slice none 0 0, .slice none 0 0], .bool false]) (by simp [results, Try.results13, go_sem, d0, d1]) rfl ⟨rfl, ?_⟩
    repeat refine Below.setCell ?_ (by show w.heap.size ≤ w.heap.size + 1; omega) _
    exact HB2.out

/-- The stones that were built, in new memory. -/
def Built (w w' : World) (js : List Jt) (n sg sc : Nat) : Prop := SRow w' w.heap.size (.slice (some ⟨sg, 0, none⟩) (n - 1) sc) (stonesTo js (n - 1)) ∧ sg < w'.heap.size ∧ n - 1 ≤ sc ∧ sc ≤ maxLen

set_option maxHeartbeats 2000000 in
theorem buildYes (w : World) (B g cap n : Nat) (js : List Jt) (hr : JRowAt w B g cap js) (hn : js.length = n) (h : archV js = true) :
    Calls Try.prog 13 #[.agg #[.slice (some ⟨g, 0, none⟩) n cap]] w fun e w' => ∃ sg sc, e = .returned (.tuple #[.agg #[.slice (some ⟨g, 0, none⟩) n cap, .slice (some ⟨sg, 0, none⟩) (n - 1) sc], .bool true]) ∧ Built w w' js n sg sc ∧ Below w.heap.size w w' := by
  obtain ⟨-, hgw, hc, hm⟩ := hr.lt
  rw [hn] at hc
  unfold maxLen at hm
  have h38 := arch_size h
  rw [hn] at h38
  have HB0 := Lib.hid (two_below w #[.slice (some ⟨g, 0, none⟩) n cap] #[.slice none 0 0, .slice none 0 0] 29 44)
  have HR := Lib.hid (hr.below HB0.out)
  have HN := Lib.hid hn
  have hp := archV_parts js
  rw [h, hn, decide_eq_true h38, Bool.true_and] at hp
  have hp' := (Bool.and_eq_true _ _).mp hp.symm
  have HG := Lib.hid hp'.1
  have HS := Lib.hid hp'.2
  obtain ⟨h3, h8⟩ := h38
  clear hr hn h hp hp'
  go_enter Try.func13, Try.ntmps13
  go_wp2_with fail
  refine (rowGrows _ _ _ _ _ js HR.out HN.out (by omega) (by omega)).mono ?_
  rintro e w1 ⟨rfl, hb1⟩
  rw [HG.out]
  have c0 : w1.cell? ⟨w.heap.size + 1, 0, none⟩ = some (.slice none 0 0) := (hb1.cell (p := ⟨w.heap.size + 1, 0, none⟩) (by simp)).trans (by go_simp)
  have c1 : w1.cell? ⟨w.heap.size + 1, 1, none⟩ = some (.slice none 0 0) := (hb1.cell (p := ⟨w.heap.size + 1, 1, none⟩) (by simp)).trans (by go_simp)
  have f0 : w1.frozen? ⟨w.heap.size + 1, 0, none⟩ = false := (hb1.frozen (p := ⟨w.heap.size + 1, 0, none⟩) (by simp)).trans (by go_simp)
  have f1 : w1.frozen? ⟨w.heap.size + 1, 1, none⟩ = false := (hb1.frozen (p := ⟨w.heap.size + 1, 1, none⟩) (by simp)).trans (by go_simp)
  have hz1 : w.heap.size + 1 + 1 ≤ w1.heap.size := by have := hb1.size; simpa using this
  have HB1 := Lib.hid (HB0.out.trans (hb1.mono HB0.out.size))
  have HR1 := Lib.hid (HR.out.below hb1)
  clear hb1
  go_wp2_with fail
  refine (rowStones _ _ _ _ _ js HR1.out HN.out (by omega) (by omega)).mono ?_
  rintro e w2 ⟨sv, rfl, hsr, hb2⟩
  rw [HS.out]
  rw [HS.out] at hsr
  have hsr' : SRow w2 w1.heap.size sv (stonesTo js (n - 1)) := hsr
  obtain ⟨sa, sc, rfl, hsc, hsm, hsg⟩ := hsr'.slice
  rw [stonesTo_length] at hsr' hsc hsg
  rw [stonesTo_length]
  obtain ⟨sg, rfl, hsgl⟩ := hsg (by omega)
  have hsg1 : w.heap.size + 1 < sg := by
    obtain ⟨vs, -, ho, -⟩ := hsr'
    have := (World.ownsRow.lt ho sg rfl).1
    omega
  have d0 := cell_kept c0 hb2
  have d1 := cell_kept c1 hb2
  have g0 : w2.frozen? ⟨w.heap.size + 1, 0, none⟩ = false := (hb2.frozen (p := ⟨w.heap.size + 1, 0, none⟩) (cell_block_lt c0)).trans f0
  have g1 : w2.frozen? ⟨w.heap.size + 1, 1, none⟩ = false := (hb2.frozen (p := ⟨w.heap.size + 1, 1, none⟩) (cell_block_lt c1)).trans f1
  have HB2 := Lib.hid (HB1.out.trans (hb2.mono HB1.out.size))
  have HSR := Lib.hid hsr'
  clear hb2 hsr hsr' c0 c1 f0 f1 hsg
  go_wp2_with fail
  have hset : ∀ (W : World), SRow W w1.heap.size (.slice (some ⟨sg, 0, none⟩) (n - 1) sc) (stonesTo js (n - 1)) → ∀ o (u : Value), SRow (W.setCell ⟨w.heap.size + 1, o, none⟩ u) w1.heap.size (.slice (some ⟨sg, 0, none⟩) (n - 1) sc) (stonesTo js (n - 1)) := by
    rintro W ⟨vs, h1, h2, h3⟩ o u
    refine ⟨vs, h1, ownsRow_setCell_other h2 (a := ⟨w.heap.size + 1, o, none⟩) (fun he => by simp [Value.ownBlock] at he; omega) _, fun i hi => ?_⟩
    have hri := h3 i hi
    exact ownsRow_setCell_other hri (a := ⟨w.heap.size + 1, o, none⟩) (fun he => by have := (World.ownsRow.lt hri _ he).1; simp at this; omega) _
  refine bodyPost_ret (v := .tuple #[.agg #[.slice (some ⟨g, 0, none⟩) n cap, .slice (some ⟨sg, 0, none⟩) (n - 1) sc], .bool true]) (by simp [results, Try.results13, go_sem, d0, d1]) rfl ⟨sg, sc, rfl, ⟨?_, ?_, hsc, hsm⟩, ?_⟩
  · refine SRow.base (B := w1.heap.size) ?_ (by omega)
    repeat refine hset _ ?_ _ _
    exact HSR.out
  · simpa using hsgl
  · repeat refine Below.setCell ?_ (by show w.heap.size ≤ w.heap.size + 1; omega) _
    exact HB2.out

theorem Built.below {w w' w2 : World} {js : List Jt} {n sg sc : Nat} (h : Built w w' js n sg sc) (hb : Below w'.heap.size w' w2) : Built w w2 js n sg sc :=
  ⟨h.1.below hb, Nat.lt_of_lt_of_le h.2.1 hb.size, h.2.2⟩


end Go.Proofs.Ytoholdpobkgffaa
