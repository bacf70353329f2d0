/- The program's loadArch: an arch with its stones and its loads. -/
import Derived.Test.YtiallkkleilgiaaLoadB
namespace Go.Proofs.Ytiallkkleilgiaa
set_option maxRecDepth 100000
open Go.ChangeShapes Go.WideShapes Go.ChangeAt Go.RowKit

theorem loadsV_bears {js : List Jt} {ls : List Ld} {m n : Nat} (h : archV js = true) (hm : ls.length = m) (hn : js.length = n) : loadsV js ls = (decide (m ≤ 6) && ldAll n ls) := by
  subst hm hn
  unfold loadsV
  rw [h, Bool.true_and]

set_option maxHeartbeats 2000000 in
theorem loadNo (w : World) (B B2 g cap n : Nat) (la : Option Addr) (m lc : Nat) (js : List Jt) (ls : List Ld) (hr : JRowAt w B g cap js) (hn : js.length = n) (hl : Lds w B2 la m lc ls) (h : loadsV js ls = false) :
    Calls Try.prog 44 #[.agg #[.slice (some ⟨g, 0, none⟩) n cap], .slice la m lc] w fun e w' => e = .returned (.tuple #[.agg #[.slice none 0 0, .slice none 0 0, .slice none 0 0], .bool false]) ∧ Below w.heap.size w w' := by
  have HB0 := Lib.hid (two_below w #[.slice (some ⟨g, 0, none⟩) n cap] #[.slice none 0 0, .slice none 0 0, .slice none 0 0] 44 83)
  have HR := Lib.hid (hr.below HB0.out)
  have HL := Lib.hid (hl.below HB0.out)
  have HN := Lib.hid hn
  have HLN := Lib.hid hl.2
  have H := Lib.hid h
  clear hr hn h hl
  cases ha : archV js
  · have HA := Lib.hid ha
    clear ha
    go_enter Try.func44, Try.ntmps44
    go_wp2_with fail
    refine (buildNo _ _ _ _ _ js HR.out HN.out HA.out).mono ?_
    rintro e w1 ⟨rfl, hb1⟩
    have c0 : w1.cell? ⟨w.heap.size + 1, 0, none⟩ = some (.slice none 0 0) := (hb1.cell (p := ⟨w.heap.size + 1, 0, none⟩) (by simp)).trans (by go_simp)
    have c1 : w1.cell? ⟨w.heap.size + 1, 1, none⟩ = some (.slice none 0 0) := (hb1.cell (p := ⟨w.heap.size + 1, 1, none⟩) (by simp)).trans (by go_simp)
    have c2 : w1.cell? ⟨w.heap.size + 1, 2, none⟩ = some (.slice none 0 0) := (hb1.cell (p := ⟨w.heap.size + 1, 2, none⟩) (by simp)).trans (by go_simp)
    have f0 : ∀ o, w1.frozen? ⟨w.heap.size + 1, o, none⟩ = false := fun o => (hb1.frozen (p := ⟨w.heap.size + 1, o, none⟩) (by simp)).trans (by go_simp)
    have HB1 := Lib.hid (HB0.out.trans (hb1.mono HB0.out.size))
    have hz1 := HB1.out.size
    have hwl : w.heap.size + 1 < w1.heap.size := cell_block_lt c0
    have hne := Nat.ne_of_lt hwl
    clear hb1
    go_upto_region 2 with (fail)
    have HB2 := Lib.hid (below_al3 HB1.out (.cells #[.slice none 0 0, .slice none 0 0] 81))
    have d0 : (w1.alloc (.cells #[.slice none 0 0, .slice none 0 0] 81)).cell? ⟨w.heap.size + 1, 0, none⟩ = some (.slice none 0 0) := by go_simp
    have d1 : (w1.alloc (.cells #[.slice none 0 0, .slice none 0 0] 81)).cell? ⟨w.heap.size + 1, 1, none⟩ = some (.slice none 0 0) := by go_simp
    have d2 : (w1.alloc (.cells #[.slice none 0 0, .slice none 0 0] 81)).cell? ⟨w.heap.size + 1, 2, none⟩ = some (.slice none 0 0) := by go_simp
    have e0 : ∀ o, (w1.alloc (.cells #[.slice none 0 0, .slice none 0 0] 81)).frozen? ⟨w.heap.size + 1, o, none⟩ = false := fun o => by have := f0 o; go_simp
    generalize hW : w1.alloc (.cells #[.slice none 0 0, .slice none 0 0] 81) = W at *
    clear hW c0 c1 c2 f0
    go_wp2_with fail
    refine bodyPost_ret (v := .tuple #[.agg #[.slice none 0 0, .slice none 0 0, .slice none 0 0], .bool false]) (by simp [results, Try.results44, go_sem, d0, d1, d2]) rfl ⟨rfl, ?_⟩
    repeat refine Below.setCell ?_ (by show w.heap.size ≤ w.heap.size + 1; omega) _
    exact HB2.out
  · have HA := Lib.hid ha
    have hv := loadsV_bears ha HLN.out HN.out
    rw [H.out] at hv
    have HV := Lib.hid hv.symm
    have h3 := arch_size ha
    rw [HN.out] at h3
    clear ha hv
    go_enter Try.func44, Try.ntmps44
    go_wp2_with fail
    refine (buildYes _ _ _ _ _ js HR.out HN.out HA.out).mono ?_
    rintro e w1 ⟨sg, sc, rfl, hbu, hb1⟩
    have c0 : w1.cell? ⟨w.heap.size + 1, 0, none⟩ = some (.slice none 0 0) := (hb1.cell (p := ⟨w.heap.size + 1, 0, none⟩) (by simp)).trans (by go_simp)
    have c1 : w1.cell? ⟨w.heap.size + 1, 1, none⟩ = some (.slice none 0 0) := (hb1.cell (p := ⟨w.heap.size + 1, 1, none⟩) (by simp)).trans (by go_simp)
    have c2 : w1.cell? ⟨w.heap.size + 1, 2, none⟩ = some (.slice none 0 0) := (hb1.cell (p := ⟨w.heap.size + 1, 2, none⟩) (by simp)).trans (by go_simp)
    have f0 : ∀ o, w1.frozen? ⟨w.heap.size + 1, o, none⟩ = false := fun o => (hb1.frozen (p := ⟨w.heap.size + 1, o, none⟩) (by simp)).trans (by go_simp)
    have HB1 := Lib.hid (HB0.out.trans (hb1.mono HB0.out.size))
    have HL1 := Lib.hid ((HL.out.below hb1).alloc (.cells #[.slice (some ⟨g, 0, none⟩) n cap, .slice (some ⟨sg, 0, none⟩) (n - 1) sc] 81))
    have hz1 := HB1.out.size
    have hwl : w.heap.size + 1 < w1.heap.size := cell_block_lt c0
    have hne := Nat.ne_of_lt hwl
    clear hb1 hbu
    go_wp2_with fail
    have HB2 := Lib.hid (below_al3 HB1.out (.cells #[.slice (some ⟨g, 0, none⟩) n cap, .slice (some ⟨sg, 0, none⟩) (n - 1) sc] 81))
    have d0 : (w1.alloc (.cells #[.slice (some ⟨g, 0, none⟩) n cap, .slice (some ⟨sg, 0, none⟩) (n - 1) sc] 81)).cell? ⟨w.heap.size + 1, 0, none⟩ = some (.slice none 0 0) := by go_simp
    have d1 : (w1.alloc (.cells #[.slice (some ⟨g, 0, none⟩) n cap, .slice (some ⟨sg, 0, none⟩) (n - 1) sc] 81)).cell? ⟨w.heap.size + 1, 1, none⟩ = some (.slice none 0 0) := by go_simp
    have d2 : (w1.alloc (.cells #[.slice (some ⟨g, 0, none⟩) n cap, .slice (some ⟨sg, 0, none⟩) (n - 1) sc] 81)).cell? ⟨w.heap.size + 1, 2, none⟩ = some (.slice none 0 0) := by go_simp
    have e0 : ∀ o, (w1.alloc (.cells #[.slice (some ⟨g, 0, none⟩) n cap, .slice (some ⟨sg, 0, none⟩) (n - 1) sc] 81)).frozen? ⟨w.heap.size + 1, o, none⟩ = false := fun o => by have := f0 o; go_simp
    generalize hW : w1.alloc (.cells #[.slice (some ⟨g, 0, none⟩) n cap, .slice (some ⟨sg, 0, none⟩) (n - 1) sc] 81) = W at *
    clear hW c0 c1 c2 f0
    refine (bears _ _ _ _ _ _ _ _ _ _ _ n ls (by omega) HL1.out).mono ?_
    rintro e w2 ⟨rfl, hb2⟩
    rw [HV.out]
    have k0 := cell_kept d0 hb2
    have k1 := cell_kept d1 hb2
    have k2 := cell_kept d2 hb2
    have q0 : ∀ o, w2.frozen? ⟨w.heap.size + 1, o, none⟩ = false := fun o => frozen_kept (e0 o) d0 hb2
    have HB3 := Lib.hid (HB2.out.trans (hb2.mono HB2.out.size))
    clear hb2 d0 d1 d2 e0
    go_wp2_with fail
    refine bodyPost_ret (v := .tuple #[.agg #[.slice none 0 0, .slice none 0 0, .slice none 0 0], .bool false]) (by simp [results, Try.results44, go_sem, k0, k1, k2]) rfl ⟨rfl, ?_⟩
    repeat refine Below.setCell ?_ (by show w.heap.size ≤ w.heap.size + 1; omega) _
    exact HB3.out

set_option maxHeartbeats 2000000 in
theorem loadYes (w : World) (B B2 g cap n : Nat) (la : Option Addr) (m lc : Nat) (js : List Jt) (ls : List Ld) (hr : JRowAt w B g cap js) (hn : js.length = n) (hl : Lds w B2 la m lc ls) (h : loadsV js ls = true) :
    Calls Try.prog 44 #[.agg #[.slice (some ⟨g, 0, none⟩) n cap], .slice la m lc] w fun e w' => ∃ sg sc, e = .returned (.tuple #[.agg #[.slice (some ⟨g, 0, none⟩) n cap, .slice (some ⟨sg, 0, none⟩) (n - 1) sc, .slice la m lc], .bool true]) ∧ Built w w' js n sg sc ∧ Below w.heap.size w w' := by
  have HB0 := Lib.hid (two_below w #[.slice (some ⟨g, 0, none⟩) n cap] #[.slice none 0 0, .slice none 0 0, .slice none 0 0] 44 83)
  have HR := Lib.hid (hr.below HB0.out)
  have HL := Lib.hid (hl.below HB0.out)
  have HN := Lib.hid hn
  have HLN := Lib.hid hl.2
  have ha := (loadsV_iff.1 h).1
  have HA := Lib.hid ha
  have hv := loadsV_bears ha HLN.out HN.out
  rw [h] at hv
  have HV := Lib.hid hv.symm
  have h3 := arch_size ha
  rw [HN.out] at h3
  clear hr hn h hl ha hv
  go_enter Try.func44, Try.ntmps44
  go_wp2_with fail
  refine (buildYes _ _ _ _ _ js HR.out HN.out HA.out).mono ?_
  rintro e w1 ⟨sg, sc, rfl, hbu, hb1⟩
  have c0 : w1.cell? ⟨w.heap.size + 1, 0, none⟩ = some (.slice none 0 0) := (hb1.cell (p := ⟨w.heap.size + 1, 0, none⟩) (by simp)).trans (by go_simp)
  have c1 : w1.cell? ⟨w.heap.size + 1, 1, none⟩ = some (.slice none 0 0) := (hb1.cell (p := ⟨w.heap.size + 1, 1, none⟩) (by simp)).trans (by go_simp)
  have c2 : w1.cell? ⟨w.heap.size + 1, 2, none⟩ = some (.slice none 0 0) := (hb1.cell (p := ⟨w.heap.size + 1, 2, none⟩) (by simp)).trans (by go_simp)
  have f0 : ∀ o, w1.frozen? ⟨w.heap.size + 1, o, none⟩ = false := fun o => (hb1.frozen (p := ⟨w.heap.size + 1, o, none⟩) (by simp)).trans (by go_simp)
  have hal : Below w1.heap.size w1 (w1.alloc (.cells #[.slice (some ⟨g, 0, none⟩) n cap, .slice (some ⟨sg, 0, none⟩) (n - 1) sc] 81)) := (Below.refl _ _).alloc (Nat.le_refl _) _
  have hsgz : w.heap.size + 1 + 1 ≤ sg := by
    obtain ⟨⟨vs, -, ho, -⟩, -⟩ := hbu
    have := (World.ownsRow.lt ho sg rfl).1
    simpa using this
  have HBU := Lib.hid (hbu.below hal)
  have HB1 := Lib.hid (HB0.out.trans (hb1.mono HB0.out.size))
  have HL1 := Lib.hid ((HL.out.below hb1).alloc (.cells #[.slice (some ⟨g, 0, none⟩) n cap, .slice (some ⟨sg, 0, none⟩) (n - 1) sc] 81))
  have hz1 := HB1.out.size
  have hwl : w.heap.size + 1 < w1.heap.size := cell_block_lt c0
  have hne := Nat.ne_of_lt hwl
  clear hb1 hbu hal
  go_wp2_with fail
  have HB2 := Lib.hid (below_al3 HB1.out (.cells #[.slice (some ⟨g, 0, none⟩) n cap, .slice (some ⟨sg, 0, none⟩) (n - 1) sc] 81))
  have b0 : (w1.alloc (.cells #[.slice (some ⟨g, 0, none⟩) n cap, .slice (some ⟨sg, 0, none⟩) (n - 1) sc] 81)).cell? ⟨w1.heap.size, 0, none⟩ = some (.slice (some ⟨g, 0, none⟩) n cap) := by go_simp
  have b1 : (w1.alloc (.cells #[.slice (some ⟨g, 0, none⟩) n cap, .slice (some ⟨sg, 0, none⟩) (n - 1) sc] 81)).cell? ⟨w1.heap.size, 1, none⟩ = some (.slice (some ⟨sg, 0, none⟩) (n - 1) sc) := by go_simp
  have d0 : (w1.alloc (.cells #[.slice (some ⟨g, 0, none⟩) n cap, .slice (some ⟨sg, 0, none⟩) (n - 1) sc] 81)).cell? ⟨w.heap.size + 1, 0, none⟩ = some (.slice none 0 0) := by go_simp
  have d1 : (w1.alloc (.cells #[.slice (some ⟨g, 0, none⟩) n cap, .slice (some ⟨sg, 0, none⟩) (n - 1) sc] 81)).cell? ⟨w.heap.size + 1, 1, none⟩ = some (.slice none 0 0) := by go_simp
  have d2 : (w1.alloc (.cells #[.slice (some ⟨g, 0, none⟩) n cap, .slice (some ⟨sg, 0, none⟩) (n - 1) sc] 81)).cell? ⟨w.heap.size + 1, 2, none⟩ = some (.slice none 0 0) := by go_simp
  have e0 : ∀ o, (w1.alloc (.cells #[.slice (some ⟨g, 0, none⟩) n cap, .slice (some ⟨sg, 0, none⟩) (n - 1) sc] 81)).frozen? ⟨w.heap.size + 1, o, none⟩ = false := fun o => by have := f0 o; go_simp
  generalize hW : w1.alloc (.cells #[.slice (some ⟨g, 0, none⟩) n cap, .slice (some ⟨sg, 0, none⟩) (n - 1) sc] 81) = W at *
  clear hW c0 c1 c2 f0
  refine (bears _ _ _ _ _ _ _ _ _ _ _ n ls (by omega) HL1.out).mono ?_
  rintro e w2 ⟨rfl, hb2⟩
  rw [HV.out]
  have HBU2 := Lib.hid (HBU.out.below hb2)
  have j0 := cell_kept b0 hb2
  have j1 := cell_kept b1 hb2
  have k0 := cell_kept d0 hb2
  have k1 := cell_kept d1 hb2
  have k2 := cell_kept d2 hb2
  have q0 : ∀ o, w2.frozen? ⟨w.heap.size + 1, o, none⟩ = false := fun o => frozen_kept (e0 o) d0 hb2
  have HB3 := Lib.hid (HB2.out.trans (hb2.mono HB2.out.size))
  obtain ⟨hs1, hs2, hs3, hs4⟩ := HBU2.out
  simp only [World.size_alloc] at hs1
  have HS1 := Lib.hid hs1
  clear hb2 b0 b1 d0 d1 d2 e0 HBU HBU2 hs1
  go_wp2_with fail
  have hset : ∀ (W : World), SRow W (w.heap.size + 1 + 1) (.slice (some ⟨sg, 0, none⟩) (n - 1) sc) (stonesTo js (n - 1)) → ∀ o (u : Value), SRow (W.setCell ⟨w.heap.size + 1, o, none⟩ u) (w.heap.size + 1 + 1) (.slice (some ⟨sg, 0, none⟩) (n - 1) sc) (stonesTo js (n - 1)) := by
    rintro W ⟨vs, h1, h2, h3⟩ o u
    refine ⟨vs, h1, ownsRow_setCell_other h2 (a := ⟨w.heap.size + 1, o, none⟩) (fun he => by simp [Value.ownBlock] at he; omega) _, fun i hi => ?_⟩
    have hri := h3 i hi
    exact ownsRow_setCell_other hri (a := ⟨w.heap.size + 1, o, none⟩) (fun he => by have := (World.ownsRow.lt hri _ he).1; simp at this; omega) _
  refine bodyPost_ret (v := .tuple #[.agg #[.slice (some ⟨g, 0, none⟩) n cap, .slice (some ⟨sg, 0, none⟩) (n - 1) sc, .slice la m lc], .bool true]) (by simp [results, Try.results44, go_sem, k0, k1, k2]) rfl ⟨sg, sc, rfl, ⟨SRow.base (B := w.heap.size + 1 + 1) ?_ (by omega), ?_, hs3, hs4⟩, ?_⟩
  · repeat refine hset _ ?_ _ _
    exact HS1.out
  · simpa using hs2
  · repeat refine Below.setCell ?_ (by show w.heap.size ≤ w.heap.size + 1; omega) _
    exact HB3.out
end Go.Proofs.Ytiallkkleilgiaa
