/- Standing, of the model: ThrustsOf and Stands; the draw of an arch and loads with which it stands, most times. -/
import Derived.Test.YtbmlcfdilopmgaaGRows
import Derived.Test.YtbmlcfdilopmgaaThreeN
import Derived.Test.YtbmlcfdilopmgaaLoadD
import Derived.Test.YtbmlcfdilopmgaaArchS
namespace Go.Proofs.Ytbmlcfdilopmgaa
set_option maxRecDepth 100000
open Go.ChangeShapes Go.WideShapes Go.ChangeAt Go.RowKit

theorem cdsOf {w : World} {B : Nat} {v : Value} {l : List Cd} (h : CdRow w B v l) : ∃ a n cap, v = .slice a n cap ∧ Cds w B a n cap l := by
  obtain ⟨a, cap, rfl, -, -⟩ := cdrow_slice h
  exact ⟨a, l.length, cap, rfl, h, rfl⟩

set_option maxHeartbeats 1000000 in
theorem specThrustsOf (w : World) (B B2 g cap n : Nat) (la : Option Addr) (m lc : Nat) (js : List Jt) (ls : List Ld) (hr : JRowAt w B g cap js) (hn : js.length = n) (h8 : n ≤ 1048576) (hl : Lds w B2 la m lc ls) :
    Calls Try.prog 30 #[.agg #[.slice (some ⟨g, 0, none⟩) n cap], .slice la m lc] w fun e w' => ∃ v, e = .returned v ∧ ThRow w' w.heap.size v (coV (rowsV js ls)) ∧ Below w.heap.size w w' := by
  have hal := cd_al w (.cells #[.slice (some ⟨g, 0, none⟩) n cap] 26)
  have HB0 := Lib.hid hal
  have HR := Lib.hid (JRowAt.below hr hal)
  have HL := Lib.hid (hl.below hal)
  have HN := Lib.hid hn
  clear hr hl hal hn
  go_enter Try.func30, Try.ntmps30
  go_wp2_with fail
  refine (specRowsOf _ _ _ _ _ _ _ _ _ js ls HR.out HN.out h8 HL.out).mono ?_
  rintro e w1 ⟨v, rfl, hrow, hb1⟩
  obtain ⟨ra, rn, rc, rfl, hcd⟩ := cdsOf hrow
  have HB1 := Lib.hid (HB0.out.trans (hb1.mono HB0.out.size))
  have HC := Lib.hid hcd
  clear hb1 hrow hcd
  go_wp2_with fail
  refine (specCornersOf _ _ _ _ _ (rowsV js ls) HC.out).mono ?_
  rintro e w2 ⟨v, rfl, hth, hb2⟩
  have HB2 := Lib.hid (HB1.out.trans (hb2.mono HB1.out.size))
  have HT := Lib.hid (ThRow.base hth HB1.out.size)
  clear hb2 hth
  go_wp2_with fail
  go_ret
  exact ⟨v, rfl, HT.out, HB2.out⟩

/-- Whether it stands. -/
def stB (js : List Jt) (ls : List Ld) : Bool := decide (0 < (coV (rowsV js ls)).length)
set_option maxHeartbeats 1000000 in
theorem specStands (w : World) (B B2 g cap n : Nat) (la : Option Addr) (m lc : Nat) (js : List Jt) (ls : List Ld) (hr : JRowAt w B g cap js) (hn : js.length = n) (h8 : n ≤ 1048576) (hl : Lds w B2 la m lc ls) :
    Calls Try.prog 50 #[.agg #[.slice (some ⟨g, 0, none⟩) n cap], .slice la m lc] w fun e w' => e = .returned (.bool (stB js ls)) ∧ Below w.heap.size w w' := by
  have hal := cd_al w (.cells #[.slice (some ⟨g, 0, none⟩) n cap] 26)
  have HB0 := Lib.hid hal
  have HR := Lib.hid (JRowAt.below hr hal)
  have HL := Lib.hid (hl.below hal)
  have HN := Lib.hid hn
  clear hr hl hal hn
  go_enter Try.func50, Try.ntmps50
  go_wp2_with fail
  refine (specThrustsOf _ _ _ _ _ _ _ _ _ js ls HR.out HN.out h8 HL.out).mono ?_
  rintro e w1 ⟨v, rfl, hth, hb1⟩
  obtain ⟨ta, tn, tc, rfl, hts⟩ := thsOf hth
  have HB1 := Lib.hid (HB0.out.trans (hb1.mono HB0.out.size))
  have HV := Lib.hid (show stB js ls = decide (0 < tn) by unfold stB; rw [hts.2])
  clear hb1 hth hts
  go_wp2_with fail
  go_ret
  exact ⟨ret_bool (by rw [HV.out]), HB1.out⟩

/-- Thrusts pass it, or it is the arch with no loads that is drawn where none was found. -/
def StandK (js : List Jt) (ls : List Ld) : Prop := stB js ls = true ∨ (js = shape 1 ∧ ls = [])
/-- An arch and loads were drawn; nothing else that was there was written but the cursor. -/
def DrawnStand (bc : Nat) (w : World) (e : Ending) (w' : World) : Prop :=
  ∃ (g cap n : Nat) (js : List Jt) (v : Value) (ls : List Ld), js.length = n ∧ n ≤ 8 ∧ e = .returned (.tuple #[.agg #[.slice (some ⟨g, 0, none⟩) n cap], v]) ∧ JRowAt w' w.heap.size g cap js ∧ LRow w' w.heap.size v ls ∧ w.grownBy w' (some bc) ∧ StandK js ls
theorem ld_empty (w : World) (B : Nat) (hB : B ≤ w.heap.size) : LRow (w.alloc (.cells #[] 82)) B (.slice (some ⟨w.heap.size, 0, none⟩) 0 0) [] :=
  World.ownsRow_lit (base := B) (e := 82) (size := 3) w #[] 0 hB (Nat.zero_le _) rfl
theorem grown_b {w w1 w2 : World} {bc : Nat} (h : w.grownBy w1 (some bc)) (k : Below w1.heap.size w1 w2) : w.grownBy w2 (some bc) := grown_trans h ⟨k.os, k.tape, k.output, k.size, fun b hb _ => k.block b hb⟩
theorem cur_b {w w' : World} {bc : Nat} {a : Option Addr} {n cap : Nat} (hc : CurOk w bc a n cap) (h : Below w.heap.size w w') : CurOk w' bc a n cap := hc.kept (row := none) ⟨h.os, h.tape, h.output, h.size, fun k hk _ => h.block k hk⟩ (by simp) (fun _ _ _ => by simp)

set_option maxHeartbeats 4000000 in
theorem standing_any (w : World) (bc : Nat) (a : Option Addr) (n cap : Nat) (hc : CurOk w bc a n cap) :
    Calls Try.prog 28 #[.pointer (some ⟨bc, 0, none⟩)] w (DrawnStand bc w) := by
  have hlt := hc.lt
  have HC0 := Lib.hid (hc.alloc (.cells #[.slice none 0 0] 26))
  have HG0 := Lib.hid (grown_refl (w.alloc (.cells #[.slice none 0 0] 26)) (some bc))
  have HAL := Lib.hid (World.grownBy_alloc w (.cells #[.slice none 0 0] 26) (some bc))
  have hbx : (w.alloc (.cells #[.slice none 0 0] 26)).cell? ⟨w.heap.size, 0, none⟩ = some (.slice none 0 0) := by go_simp
  have hfx : (w.alloc (.cells #[.slice none 0 0] 26)).frozen? ⟨w.heap.size, 0, none⟩ = false := by go_simp
  have HBX := Lib.hid (And.intro hbx hfx)
  have hsz : (w.alloc (.cells #[.slice none 0 0] 26)).heap.size = w.heap.size + 1 := by simp
  clear hc hbx hfx
  go_enter Try.func28, Try.ntmps28
  go_wp2_with fail
  generalize hW : w.alloc (.cells #[.slice none 0 0] 26) = W at *
  clear hW
  go_loopw [4] (fun t wr => ∃ k : Nat, k ≤ 5 ∧ t = .int .i64 k ∧ CurOk wr bc a n cap ∧ W.grownBy wr (some bc)) (fun t _ => 5 - (intOf t).toNat)
  case atStart => exact ⟨0, Nat.zero_le _, rfl, HC0.out, HG0.out⟩
  case round =>
    clear HC0 HG0
    obtain ⟨k, hk, rfl, hcr, hgr⟩ := hrel
    have HG := Lib.hid hgr
    have hzr := hgr.size
    have c0 := (World.grownBy.cell_far hgr ⟨w.heap.size, 0, none⟩ (by show w.heap.size < _; omega) (by simp; omega)).trans HBX.out.1
    have f0 := (World.grownBy.frozen_far hgr ⟨w.heap.size, 0, none⟩ (by show w.heap.size < _; omega) (by simp; omega)).trans HBX.out.2
    have C0 := Lib.hid c0
    have F0 := Lib.hid f0
    have HCR := Lib.hid hcr
    clear hgr c0 f0 hcr
    by_cases hlt5 : k < 5
    · go_wp2_with fail
      refine (arch_cur _ _ _ _ _ HCR.out).mono ?_
      rintro e w2 ⟨⟨g, cp, m, js, hf, hm, rfl, hrow, hg2⟩, hc2⟩
      have c2 := (World.grownBy.cell_far hg2 ⟨w.heap.size, 0, none⟩ (by have := cell_block_lt C0.out; exact this) (by simp; omega)).trans C0.out
      have f2 := (World.grownBy.frozen_far hg2 ⟨w.heap.size, 0, none⟩ (by have := cell_block_lt C0.out; exact this) (by simp; omega)).trans F0.out
      have hz2 := hg2.size
      have hrl := hrow.lt
      have h38 := arch_size hf.1
      rw [hm] at h38
      have hal := cd_al w2 (.cells #[.slice (some ⟨g, 0, none⟩) m cp] 26)
      have HR2 := Lib.hid (JRowAt.below hrow hal)
      have HC2 := Lib.hid (cur_b hc2 hal)
      have HG2 := Lib.hid (grown_b (grown_trans HG.out hg2) hal)
      have C2 := Lib.hid (cell_kept c2 hal)
      have F2 := Lib.hid ((hal.frozen (p := ⟨w.heap.size, 0, none⟩) (cell_block_lt c2)).trans f2)
      have hbx : (w2.alloc (.cells #[.slice (some ⟨g, 0, none⟩) m cp] 26)).cell? ⟨w2.heap.size, 0, none⟩ = some (.slice (some ⟨g, 0, none⟩) m cp) := by go_simp
      have HX2 := Lib.hid hbx
      have HF := Lib.hid hf
      have HM := Lib.hid hm
      have hlt2 := hc2.lt
      clear hg2 hrow hf hm hc2 hal c2 f2 hbx
      go_wp2_with fail
      generalize hX : w2.alloc (.cells #[.slice (some ⟨g, 0, none⟩) m cp] 26) = X at *
      have hzx : w2.heap.size < X.heap.size := by rw [← hX]; simp
      clear hX
      refine (loads_cur _ bc a n cap wr.heap.size g m cp js HC2.out HR2.out HM.out HF.out (by omega)).mono ?_
      rintro e w4 ⟨⟨v, ls, rfl, hl4, -, -, hg4⟩, hc4⟩
      have C4 := Lib.hid ((World.grownBy.cell_far hg4 ⟨w.heap.size, 0, none⟩ (cell_block_lt C2.out) (by simp; omega)).trans C2.out)
      have F4 := Lib.hid ((World.grownBy.frozen_far hg4 ⟨w.heap.size, 0, none⟩ (cell_block_lt C2.out) (by simp; omega)).trans F2.out)
      have x4 := (World.grownBy.cell_far hg4 ⟨w2.heap.size, 0, none⟩ hzx (by simp; omega)).trans HX2.out
      have HR4 : RowKit.Hid (JRowAt w4 wr.heap.size g cp js) := Lib.hid (World.ownsRow.kept HR2.out hg4 (.inr (by simp [Value.ownBlock]; omega)))
      have HG4 := Lib.hid (grown_trans HG2.out hg4)
      have HC4 := Lib.hid hc4
      obtain ⟨la, lc, rfl, -⟩ := lrow_slice hl4
      have HL4 := Lib.hid (show Lds w4 X.heap.size la ls.length lc ls from ⟨hl4, rfl⟩)
      have hz4 := hg4.size
      have hzw : w.heap.size < w4.heap.size := cell_block_lt C4.out
      have hnw := Nat.ne_of_lt hzw
      clear hg4 hl4 hc4 C2 F2 HX2 HR2 HG2 HC2
      go_wp2_with fail
      refine (specStands _ _ _ _ _ _ _ _ _ js ls HR4.out HM.out (by omega) HL4.out).mono ?_
      rintro e w5 ⟨rfl, hb5⟩
      have HR5 := Lib.hid (JRowAt.below HR4.out hb5)
      have HL5 := Lib.hid (HL4.out.below hb5)
      have HG5 := Lib.hid (grown_b HG4.out hb5)
      have HC5 := Lib.hid (cur_b HC4.out hb5)
      have c5 := cell_kept C4.out hb5
      have f5 := (hb5.frozen (p := ⟨w.heap.size, 0, none⟩) hzw).trans F4.out
      have x5 := cell_kept x4 hb5
      have hz5 := hb5.size
      clear hb5 x4 C4 F4 HR4 HL4 HG4 HC4
      cases hst : stB js ls
      · clear c5 f5
        go_wp2_with fail
        go_roundw
        case rel => exact ⟨k + 1, by omega, by go_num, HC5.out, HG5.out⟩
        case measure => simp [intOf]; omega
      · have HSTB := Lib.hid hst
        go_wp2_with fail
        refine World.any (p := fun W => bodyPost _ _ (DrawnStand bc w) _ _ W) (fun Z hZ => ?_)
        have z0 : Z.cell? ⟨w.heap.size, 0, none⟩ = some (.slice (some ⟨g, 0, none⟩) m cp) := by subst hZ; go_simp
        have hend : JRowAt Z w.heap.size g cp js ∧ LRow Z w.heap.size (.slice la ls.length lc) ls ∧ w.grownBy Z (some bc) := by
          subst hZ
          have G3 := grown_setCell w5 w.heap.size 0 (.slice (some ⟨g, 0, none⟩) m cp)
          refine ⟨?_, ?_, ?_⟩
          · have h1 : JRowAt (w5.setCell ⟨w.heap.size, 0, none⟩ (.slice (some ⟨g, 0, none⟩) m cp)) wr.heap.size g cp js := World.ownsRow.kept HR5.out G3 (.inr (by simp [Value.ownBlock]; omega))
            exact owns_base h1 (by omega)
          · have h1 : LRow (w5.setCell ⟨w.heap.size, 0, none⟩ (.slice (some ⟨g, 0, none⟩) m cp)) X.heap.size (.slice la ls.length lc) ls := World.ownsRow.kept HL5.out.1 G3 (by
              cases hv : (Value.slice la ls.length lc).ownBlock with
              | none => exact .inl rfl
              | some q => exact .inr (fun he => by have := (World.ownsRow.lt HL5.out.1 q hv).1; simp at he; omega))
            exact owns_base h1 (by omega)
          · exact grown_new (grown_trans HAL.out HG5.out) G3 (fun q hq => by cases hq; exact Nat.le_refl _)
        refine bodyPost_ret (v := .tuple #[.agg #[.slice (some ⟨g, 0, none⟩) m cp], .slice la ls.length lc]) (by simp [results, Try.results28, go_sem, z0]) rfl ⟨g, cp, m, js, .slice la ls.length lc, ls, HM.out, by omega, rfl, hend.1, hend.2.1, hend.2.2, .inl HSTB.out⟩
    · have hk5 : k = 5 := by omega
      have hnl : ¬ ((k : Int) < 5) := by omega
      clear hk5
      go_wp2_with fail
      refine (l06Shape 1 (by omega) _).mono ?_
      rintro e w2 ⟨g, cp, rfl, hrow, hb2⟩
      have c2 := cell_kept C0.out hb2
      have f2 := (hb2.frozen (p := ⟨w.heap.size, 0, none⟩) (cell_block_lt C0.out)).trans F0.out
      have HR2 := Lib.hid hrow
      have HG2 := Lib.hid (grown_b HG.out hb2)
      have hrl := hrow.lt
      have hz2 := hb2.size
      have hzw : w.heap.size < w2.heap.size := cell_block_lt c2
      have hnw := Nat.ne_of_lt hzw
      have hsh : (shape 1).length ≤ 8 := by decide
      have HSH := Lib.hid hsh
      clear hb2 hrow hsh
      go_wp2_with fail
      refine World.any (p := fun W => bodyPost _ _ (DrawnStand bc w) _ _ W) (fun Z hZ => ?_)
      have z0 : Z.cell? ⟨w.heap.size, 0, none⟩ = some (.slice (some ⟨g, 0, none⟩) (shape 1).length cp) := by subst hZ; go_simp
      have hend : JRowAt Z w.heap.size g cp (shape 1) ∧ LRow Z w.heap.size (.slice (some ⟨w2.heap.size, 0, none⟩) 0 0) [] ∧ w.grownBy Z (some bc) := by
        subst hZ
        have G3 := grown_setCell w2 w.heap.size 0 (.slice (some ⟨g, 0, none⟩) (shape 1).length cp)
        refine ⟨?_, ?_, ?_⟩
        · have h1 : JRowAt (w2.setCell ⟨w.heap.size, 0, none⟩ (.slice (some ⟨g, 0, none⟩) (shape 1).length cp)) wr.heap.size g cp (shape 1) := World.ownsRow.kept HR2.out G3 (.inr (by simp [Value.ownBlock]; omega))
          exact owns_base (World.ownsRow.alloc h1 _) (by omega)
        · have h1 := ld_empty (w2.setCell ⟨w.heap.size, 0, none⟩ (.slice (some ⟨g, 0, none⟩) (shape 1).length cp)) w.heap.size (by simp; omega)
          simp only [World.size_setCell] at h1
          exact h1
        · exact grown_trans (grown_new (grown_trans HAL.out HG2.out) G3 (fun q hq => by cases hq; exact Nat.le_refl _)) (World.grownBy_alloc _ _ _)
      refine bodyPost_ret (v := .tuple #[.agg #[.slice (some ⟨g, 0, none⟩) (shape 1).length cp], .slice (some ⟨w2.heap.size, 0, none⟩) 0 0]) (by simp [results, Try.results28, go_sem, z0]) rfl ⟨g, cp, _, shape 1, .slice (some ⟨w2.heap.size, 0, none⟩) 0 0, [], rfl, HSH.out, rfl, hend.1, hend.2.1, hend.2.2, .inr ⟨rfl, rfl⟩⟩

/-- An arch and loads were drawn, in new memory; of what was there nothing has turned. -/
def NewStand (w : World) (e : Ending) (w' : World) : Prop :=
  ∃ (g cap n : Nat) (js : List Jt) (v : Value) (ls : List Ld), js.length = n ∧ n ≤ 8 ∧ e = .returned (.tuple #[.agg #[.slice (some ⟨g, 0, none⟩) n cap], v]) ∧ JRowAt w' w.heap.size g cap js ∧ LRow w' w.heap.size v ls ∧ Below w.heap.size w w'

/-- The same, with what is known of them. -/
def NewStandK (w : World) (e : Ending) (w' : World) : Prop :=
  ∃ (g cap n : Nat) (js : List Jt) (v : Value) (ls : List Ld), js.length = n ∧ n ≤ 8 ∧ e = .returned (.tuple #[.agg #[.slice (some ⟨g, 0, none⟩) n cap], v]) ∧ JRowAt w' w.heap.size g cap js ∧ LRow w' w.heap.size v ls ∧ Below w.heap.size w w' ∧ StandK js ls

set_option maxHeartbeats 2000000 in
theorem drawStandingK (w : World) (a : Option Addr) (n cap : Nat) (zs : List Int) (hr : IsCode w a n cap zs) :
    Calls Try.prog 6 #[.slice a n cap] w (NewStandK w) := by
  have hb0 := (Below.refl w.heap.size w).alloc (Nat.le_refl _) (.cells #[.slice none 0 0] 26)
  have hr1 : IsCode (w.alloc (.cells #[.slice none 0 0] 26)) a n cap zs := hr.below hb0
  have HB0 := Lib.hid hb0
  clear hr hb0
  go_enter Try.func6, Try.ntmps6
  go_wp2_with fail
  refine (new_any _ _ _ _ zs hr1).mono ?_
  rintro e w1 ⟨rfl, hc1, hb1, hz1⟩
  simp only [World.size_alloc] at hc1 hz1
  have rc1 : w1.cell? ⟨w.heap.size, 0, none⟩ = some (.slice none 0 0) := (hb1.cell (p := ⟨w.heap.size, 0, none⟩) (by simp)).trans (by go_simp)
  have rf1 : w1.frozen? ⟨w.heap.size, 0, none⟩ = false := (hb1.frozen (p := ⟨w.heap.size, 0, none⟩) (by simp)).trans (by go_simp)
  have HB1 := Lib.hid (HB0.out.trans (hb1.mono (by simp)))
  have RC1 := Lib.hid rc1
  have RF1 := Lib.hid rf1
  clear hr1 hb1 rc1 rf1
  go_wp2_with fail
  refine (standing_any _ _ _ _ _ hc1).mono ?_
  rintro e w2 ⟨g, cp, m, js, v, ls, hm, hm8, rfl, hrow, hl, hg, hsk⟩
  have rc2 := (World.grownBy.cell_far hg ⟨w.heap.size, 0, none⟩ (cell_block_lt RC1.out) (by simp)).trans RC1.out
  have rf2 := (World.grownBy.frozen_far hg ⟨w.heap.size, 0, none⟩ (cell_block_lt RC1.out) (by simp)).trans RF1.out
  have hz2 := hg.size
  have HB2 := Lib.hid (HB1.out.grown hg HB1.out.size (fun k hk => by cases hk; omega))
  have HR := Lib.hid hrow
  have HL := Lib.hid hl
  have hlt := hrow.lt
  have hzw : w.heap.size < w2.heap.size := cell_block_lt rc2
  have hnw := Nat.ne_of_lt hzw
  have HM := Lib.hid hm
  have HSK := Lib.hid hsk
  have hlb := fun k hk => (World.ownsRow.lt hl k hk).1
  have HLB := Lib.hid hlb
  clear hg hrow hl hm hc1 hlb hsk
  go_wp2_with fail
  refine World.any (p := fun W => bodyPost _ _ (NewStandK w) _ _ W) (fun Z hZ => ?_)
  have z0 : Z.cell? ⟨w.heap.size, 0, none⟩ = some (.slice (some ⟨g, 0, none⟩) m cp) := by subst hZ; go_simp
  have hend : JRowAt Z w.heap.size g cp js ∧ LRow Z w.heap.size v ls ∧ Below w.heap.size w Z := by
    subst hZ
    have G3 := grown_setCell w2 w.heap.size 0 (.slice (some ⟨g, 0, none⟩) m cp)
    refine ⟨?_, ?_, ?_⟩
    · have h1 : JRowAt (w2.setCell ⟨w.heap.size, 0, none⟩ (.slice (some ⟨g, 0, none⟩) m cp)) w1.heap.size g cp js := World.ownsRow.kept HR.out G3 (.inr (by simp [Value.ownBlock]; omega))
      exact owns_base (World.ownsRow.alloc h1 _) (by omega)
    · have h1 : LRow (w2.setCell ⟨w.heap.size, 0, none⟩ (.slice (some ⟨g, 0, none⟩) m cp)) w1.heap.size v ls := World.ownsRow.kept HL.out G3 (by
        cases hv : v.ownBlock with
        | none => exact .inl rfl
        | some q => exact .inr (fun he => by have := HLB.out q hv; simp at he; omega))
      exact owns_base (World.ownsRow.alloc h1 _) (by omega)
    · have h2 := HB2.out.setCell (p := ⟨w.heap.size, 0, none⟩) (Nat.le_refl _) (.slice (some ⟨g, 0, none⟩) m cp)
      exact h2.alloc h2.size _
  refine bodyPost_ret (v := .tuple #[.agg #[.slice (some ⟨g, 0, none⟩) m cp], v]) (by simp [results, Try.results6, go_sem, z0]) rfl ⟨g, cp, m, js, v, ls, HM.out, hm8, rfl, hend.1, hend.2.1, hend.2.2, HSK.out⟩
theorem drawStanding (w : World) (a : Option Addr) (n cap : Nat) (zs : List Int) (hr : IsCode w a n cap zs) :
    Calls Try.prog 6 #[.slice a n cap] w (NewStand w) := by
  refine (drawStandingK w a n cap zs hr).mono ?_
  rintro e w' ⟨g, cp, m, js, v, ls, h1, h2, h3, h4, h5, h6, -⟩
  exact ⟨g, cp, m, js, v, ls, h1, h2, h3, h4, h5, h6⟩
end Go.Proofs.Ytbmlcfdilopmgaa
