/- Standing, of the model: StandsWith and FirstThrust. -/
import Derived.Test.YtibcalpkmjjilaaGCond
import Derived.Test.YtibcalpkmjjilaaStandC
import Derived.Test.YtibcalpkmjjilaaThrustX
namespace Go.Proofs.Ytibcalpkmjjilaa
set_option maxRecDepth 100000
open Go.ChangeShapes Go.WideShapes Go.ChangeAt Go.RowKit

/-- What is known of the rows of a drawn arch that stands. -/
theorem standK_rows {js : List Jt} {ls : List Ld} (h : StandK js ls) : loadsV js ls = true ∧ cdsOk (cdsV js ls) = true := by
  rcases h with h | ⟨rfl, rfl⟩
  · unfold stB at h
    have h0 := of_decide_eq_true h
    cases hl : loadsV js ls
    · rw [rowsV_l hl, coV_no (by decide)] at h0
      exact absurd h0 (Nat.lt_irrefl 0)
    · cases hc : cdsOk (cdsV js ls)
      · rw [rowsV_c hc, coV_no (by decide)] at h0
        exact absurd h0 (Nat.lt_irrefl 0)
      · exact ⟨rfl, rfl⟩
  · exact ⟨by decide +kernel, by decide +kernel⟩
theorem standK_len {js : List Jt} {ls : List Ld} (h : StandK js ls) : (rowsV js ls).length = 2 * js.length + 1 := by
  rw [rowsV_yes (standK_rows h).1 (standK_rows h).2, cdsV_length]

set_option maxHeartbeats 2000000 in
theorem specStandsWith (w : World) (B B2 g cap n : Nat) (la : Option Addr) (m lc : Nat) (js : List Jt) (ls : List Ld) (th tv tm td : Int) (hr : JRowAt w B g cap js) (hn : js.length = n) (h8 : n ≤ 1048576) (hl : Lds w B2 la m lc ls) :
    Calls Try.prog 28 #[.agg #[.slice (some ⟨g, 0, none⟩) n cap], .slice la m lc, .agg #[.int .i64 th, .int .i64 tv, .int .i64 tm, .int .i64 td]] w fun e w' => e = .returned (.bool (fulAll th tv tm td (rowsV js ls))) ∧ Below w.heap.size w w' := by
  have hb0 := ((Below.refl w.heap.size w).alloc (Nat.le_refl _) (.cells #[.slice (some ⟨g, 0, none⟩) n cap] 40)).alloc (by simp) (.cells #[.int .i64 th, .int .i64 tv, .int .i64 tm, .int .i64 td] 29)
  have HR0 := Lib.hid (hr.below hb0)
  have HL0 := Lib.hid (hl.below hb0)
  have HB0 := Lib.hid hb0
  have HN := Lib.hid hn
  have s0 : ((w.alloc (.cells #[.slice (some ⟨g, 0, none⟩) n cap] 40)).alloc (.cells #[.int .i64 th, .int .i64 tv, .int .i64 tm, .int .i64 td] 29)).cell? ⟨w.heap.size, 0, none⟩ = some (.slice (some ⟨g, 0, none⟩) n cap) := by go_simp
  have ta0 : ((w.alloc (.cells #[.slice (some ⟨g, 0, none⟩) n cap] 40)).alloc (.cells #[.int .i64 th, .int .i64 tv, .int .i64 tm, .int .i64 td] 29)).cell? ⟨w.heap.size + 1, 0, none⟩ = some (.int .i64 th) := by go_simp
  have tb0 : ((w.alloc (.cells #[.slice (some ⟨g, 0, none⟩) n cap] 40)).alloc (.cells #[.int .i64 th, .int .i64 tv, .int .i64 tm, .int .i64 td] 29)).cell? ⟨w.heap.size + 1, 1, none⟩ = some (.int .i64 tv) := by go_simp
  have tc0 : ((w.alloc (.cells #[.slice (some ⟨g, 0, none⟩) n cap] 40)).alloc (.cells #[.int .i64 th, .int .i64 tv, .int .i64 tm, .int .i64 td] 29)).cell? ⟨w.heap.size + 1, 2, none⟩ = some (.int .i64 tm) := by go_simp
  have td0 : ((w.alloc (.cells #[.slice (some ⟨g, 0, none⟩) n cap] 40)).alloc (.cells #[.int .i64 th, .int .i64 tv, .int .i64 tm, .int .i64 td] 29)).cell? ⟨w.heap.size + 1, 3, none⟩ = some (.int .i64 td) := by go_simp
  clear hr hn hl hb0
  go_enter Try.func28, Try.ntmps28
  go_wp2_with fail
  generalize hW : (w.alloc (.cells #[.slice (some ⟨g, 0, none⟩) n cap] 40)).alloc (.cells #[.int .i64 th, .int .i64 tv, .int .i64 tm, .int .i64 td] 29) = w0 at *
  clear hW
  go_region_held3 (fun w' => w'.cell? ⟨w.heap.size, 0, none⟩ = some (.slice (some ⟨g, 0, none⟩) n cap) ∧ w'.cell? ⟨w.heap.size + 1, 0, none⟩ = some (.int .i64 th) ∧ w'.cell? ⟨w.heap.size + 1, 1, none⟩ = some (.int .i64 tv) ∧ w'.cell? ⟨w.heap.size + 1, 2, none⟩ = some (.int .i64 tm) ∧ w'.cell? ⟨w.heap.size + 1, 3, none⟩ = some (.int .i64 td))
    (first | go_keep | trivial)
    (first
      | (go_at_call 15; refine (specRowsOf _ _ _ _ _ _ _ _ _ js ls (by first | exact HR0.out | exact JRowAt.drew HR0.out _) HN.out h8 (by first | exact HL0.out | exact ⟨HL0.out.1.drew _, HL0.out.2⟩)).mono ?_; rintro e w1 ⟨v, rfl, hrow, hb1⟩; obtain ⟨ra, rn, rc, rfl, hcd⟩ := cdsOf hrow; have s1 : w1.cell? ⟨w.heap.size, 0, none⟩ = some (.slice (some ⟨g, 0, none⟩) n cap) := (by first | exact cell_kept s0 hb1 | exact cell_after s0 hb1); have ta1 : w1.cell? ⟨w.heap.size + 1, 0, none⟩ = some (.int .i64 th) := (by first | exact cell_kept ta0 hb1 | exact cell_after ta0 hb1); have tb1 : w1.cell? ⟨w.heap.size + 1, 1, none⟩ = some (.int .i64 tv) := (by first | exact cell_kept tb0 hb1 | exact cell_after tb0 hb1); have tc1 : w1.cell? ⟨w.heap.size + 1, 2, none⟩ = some (.int .i64 tm) := (by first | exact cell_kept tc0 hb1 | exact cell_after tc0 hb1); have td1 : w1.cell? ⟨w.heap.size + 1, 3, none⟩ = some (.int .i64 td) := (by first | exact cell_kept td0 hb1 | exact cell_after td0 hb1); have HB1 : RowKit.Hid (Below w.heap.size w w1) := Lib.hid (by first | exact HB0.out.trans (hb1.mono HB0.out.size) | exact below_after HB0.out hb1); have HC := Lib.hid hcd; clear hb1 hrow hcd)
      | (go_at_call 60; refine (specFulfillsAll _ _ _ _ _ th tv tm td (rowsV js ls) (by first | exact HC.out | exact ⟨HC.out.1.drew _, HC.out.2⟩)).mono ?_; rintro e w2 ⟨rfl, hb2⟩; have s2 : w2.cell? ⟨w.heap.size, 0, none⟩ = some (.slice (some ⟨g, 0, none⟩) n cap) := (by first | exact cell_kept s1 hb2 | exact cell_after s1 hb2); have ta2 : w2.cell? ⟨w.heap.size + 1, 0, none⟩ = some (.int .i64 th) := (by first | exact cell_kept ta1 hb2 | exact cell_after ta1 hb2); have tb2 : w2.cell? ⟨w.heap.size + 1, 1, none⟩ = some (.int .i64 tv) := (by first | exact cell_kept tb1 hb2 | exact cell_after tb1 hb2); have tc2 : w2.cell? ⟨w.heap.size + 1, 2, none⟩ = some (.int .i64 tm) := (by first | exact cell_kept tc1 hb2 | exact cell_after tc1 hb2); have td2 : w2.cell? ⟨w.heap.size + 1, 3, none⟩ = some (.int .i64 td) := (by first | exact cell_kept td1 hb2 | exact cell_after td1 hb2); have HB2 : RowKit.Hid (Below w.heap.size w w2) := Lib.hid (by first | exact HB1.out.trans (hb2.mono HB1.out.size) | exact below_after HB1.out hb2); clear hb2))
  go_wp2_with fail
  go_ret
  exact ⟨rfl, HB2.out⟩

/-- A thrust and whether there is one were answered. -/
def FtAns (w : World) (F : Cd) (o : Bool) (e : Ending) (w' : World) : Prop := e = .returned (.tuple #[.agg #[.int .i64 F.1, .int .i64 F.2.1, .int .i64 F.2.2.1, .int .i64 F.2.2.2], .bool o]) ∧ Below w.heap.size w w'
/-- Four cells of a box are written. -/
theorem tset {w : World} {b : Nat} {h v m d : Value} (H V M D : Int) (h0 : w.cell? ⟨b, 0, none⟩ = some h) (h1 : w.cell? ⟨b, 1, none⟩ = some v) (h2 : w.cell? ⟨b, 2, none⟩ = some m) (h3 : w.cell? ⟨b, 3, none⟩ = some d) :
    TBox ((((w.setCell ⟨b, 0, none⟩ (.int .i64 H)).setCell ⟨b, 1, none⟩ (.int .i64 V)).setCell ⟨b, 2, none⟩ (.int .i64 M)).setCell ⟨b, 3, none⟩ (.int .i64 D)) b H V M D := by
  refine ⟨?_, ?_, ?_, ?_⟩ <;> go_simp
theorem tset_below {w0 w : World} {B b : Nat} (hb : Below B w0 w) (hB : B ≤ b) (H V M D : Value) :
    Below B w0 ((((w.setCell ⟨b, 0, none⟩ H).setCell ⟨b, 1, none⟩ V).setCell ⟨b, 2, none⟩ M).setCell ⟨b, 3, none⟩ D) := (((hb.setCell (p := ⟨b, 0, none⟩) hB H).setCell (p := ⟨b, 1, none⟩) hB V).setCell (p := ⟨b, 2, none⟩) hB M).setCell (p := ⟨b, 3, none⟩) hB D

/-- The first thrust; the zero thrust where there is none. -/
def firV (js : List Jt) (ls : List Ld) : Cd := cd (coV (rowsV js ls)) 0
end Go.Proofs.Ytibcalpkmjjilaa
