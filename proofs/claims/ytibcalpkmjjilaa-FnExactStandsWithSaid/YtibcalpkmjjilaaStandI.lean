/- Standing, of the program: StandsWith. -/
import Derived.Test.YtibcalpkmjjilaaGCond
import Derived.Test.YtibcalpkmjjilaaGRows
import Derived.Test.YtibcalpkmjjilaaStandC
import Derived.Test.YtibcalpkmjjilaaThrustX
namespace Go.Proofs.Ytibcalpkmjjilaa
set_option maxRecDepth 100000
open Go.ChangeShapes Go.WideShapes Go.ChangeAt Go.RowKit

set_option maxHeartbeats 2000000 in
theorem implStandsWith (w : World) (B B2 g cap n : Nat) (la : Option Addr) (m lc : Nat) (js : List Jt) (ls : List Ld) (th tv tm td : Int) (hr : JRowAt w B g cap js) (hn : js.length = n) (hl : Lds w B2 la m lc ls) :
    Calls Try.prog 32 #[.agg #[.slice (some ⟨g, 0, none⟩) n cap], .slice la m lc, .agg #[.int .i64 th, .int .i64 tv, .int .i64 tm, .int .i64 td]] w fun e w' => e = .returned (.bool (fulAll th tv tm td (rowsV js ls))) ∧ Below w.heap.size w w' := by
  have hb0 := ((Below.refl w.heap.size w).alloc (Nat.le_refl _) (.cells #[.slice (some ⟨g, 0, none⟩) n cap] 40)).alloc (by simp) (.cells #[.int .i64 th, .int .i64 tv, .int .i64 tm, .int .i64 td] 29)
  have HR0 := Lib.hid (hr.below hb0)
  have HL0 := Lib.hid (hl.below hb0)
  have HB0 := Lib.hid hb0
  have HN := Lib.hid hn
  have s0 : ((w.alloc (.cells #[.slice (some ⟨g, 0, none⟩) n cap] 40)).alloc (.cells #[.int .i64 th, .int .i64 tv, .int .i64 tm, .int .i64 td] 29)).cell? ⟨w.heap.size, 0, none⟩ = some (.slice (some ⟨g, 0, none⟩) n cap) := by go_simp
  have ta0 : ((w.alloc (.cells #[.slice (some ⟨g, 0, none⟩) n cap] 40)).alloc (.cells #[.int .i64 th, .int .i64 tv, .int .i64 tm, .int .i64 td] 29)).cell? ⟨w.heap.size + 1, 0, none⟩ = some (.int .i64 th) := by go_simp
  have tb0 : ((w.alloc (.cells #[.slice (some ⟨g, 0, none⟩) n cap] 40)).alloc (.cells #[.int .i64 th, .int .i64 tv, .int .i64 tm, .int .i64 td] 29)).cell? ⟨w.heap.size + 1, 1, none⟩ = some (.int .i64 tv) := by go_simp
  have tc0 : ((w.alloc (.cells #[.slice (some ⟨g, 0, none⟩) n cap] 40)).alloc (.cells #[.int .i64 th, .int .i64 tv, .int .i64 tm, .int .i64 td] 29)).cell? ⟨w.heap.size + 1, 2, none⟩ = some (.int .i64 tm) := by go_simp
  have td0 : ((w.alloc (.cells #[.slice (some ⟨g, 0, none⟩) n cap] 40)).alloc (.cells #[.int .i64 th, .int .i64 tv, .int .i64 tm, .int .i64 td] 29)).cell? ⟨w.heap.size + 1, 3, none⟩ = some (.int .i64 td) := by go_simp
  clear hr hn hl hb0
  go_enter Try.func32, Try.ntmps32
  go_wp2_with fail
  generalize hW : (w.alloc (.cells #[.slice (some ⟨g, 0, none⟩) n cap] 40)).alloc (.cells #[.int .i64 th, .int .i64 tv, .int .i64 tm, .int .i64 td] 29) = w0 at *
  clear hW
  go_region_held3 (fun w' => w'.cell? ⟨w.heap.size, 0, none⟩ = some (.slice (some ⟨g, 0, none⟩) n cap) ∧ w'.cell? ⟨w.heap.size + 1, 0, none⟩ = some (.int .i64 th) ∧ w'.cell? ⟨w.heap.size + 1, 1, none⟩ = some (.int .i64 tv) ∧ w'.cell? ⟨w.heap.size + 1, 2, none⟩ = some (.int .i64 tm) ∧ w'.cell? ⟨w.heap.size + 1, 3, none⟩ = some (.int .i64 td))
    (first | go_keep | trivial)
    (first
      | (go_at_call 63; refine (implRowsOf _ _ _ _ _ _ _ _ _ js ls (by first | exact HR0.out | exact JRowAt.drew HR0.out _) HN.out (by first | exact HL0.out | exact ⟨HL0.out.1.drew _, HL0.out.2⟩)).mono ?_; rintro e w1 ⟨v, rfl, hrow, hb1⟩; obtain ⟨ra, rn, rc, rfl, hcd⟩ := cdsOf hrow; have s1 : w1.cell? ⟨w.heap.size, 0, none⟩ = some (.slice (some ⟨g, 0, none⟩) n cap) := (by first | exact cell_kept s0 hb1 | exact cell_after s0 hb1); have ta1 : w1.cell? ⟨w.heap.size + 1, 0, none⟩ = some (.int .i64 th) := (by first | exact cell_kept ta0 hb1 | exact cell_after ta0 hb1); have tb1 : w1.cell? ⟨w.heap.size + 1, 1, none⟩ = some (.int .i64 tv) := (by first | exact cell_kept tb0 hb1 | exact cell_after tb0 hb1); have tc1 : w1.cell? ⟨w.heap.size + 1, 2, none⟩ = some (.int .i64 tm) := (by first | exact cell_kept tc0 hb1 | exact cell_after tc0 hb1); have td1 : w1.cell? ⟨w.heap.size + 1, 3, none⟩ = some (.int .i64 td) := (by first | exact cell_kept td0 hb1 | exact cell_after td0 hb1); have HB1 : RowKit.Hid (Below w.heap.size w w1) := Lib.hid (by first | exact HB0.out.trans (hb1.mono HB0.out.size) | exact below_after HB0.out hb1); have HC := Lib.hid hcd; clear hb1 hrow hcd)
      | (go_at_call 17; refine (implFulfillsAll _ _ _ _ _ th tv tm td (rowsV js ls) (by first | exact HC.out | exact ⟨HC.out.1.drew _, HC.out.2⟩)).mono ?_; rintro e w2 ⟨rfl, hb2⟩; have s2 : w2.cell? ⟨w.heap.size, 0, none⟩ = some (.slice (some ⟨g, 0, none⟩) n cap) := (by first | exact cell_kept s1 hb2 | exact cell_after s1 hb2); have ta2 : w2.cell? ⟨w.heap.size + 1, 0, none⟩ = some (.int .i64 th) := (by first | exact cell_kept ta1 hb2 | exact cell_after ta1 hb2); have tb2 : w2.cell? ⟨w.heap.size + 1, 1, none⟩ = some (.int .i64 tv) := (by first | exact cell_kept tb1 hb2 | exact cell_after tb1 hb2); have tc2 : w2.cell? ⟨w.heap.size + 1, 2, none⟩ = some (.int .i64 tm) := (by first | exact cell_kept tc1 hb2 | exact cell_after tc1 hb2); have td2 : w2.cell? ⟨w.heap.size + 1, 3, none⟩ = some (.int .i64 td) := (by first | exact cell_kept td1 hb2 | exact cell_after td1 hb2); have HB2 : RowKit.Hid (Below w.heap.size w w2) := Lib.hid (by first | exact HB1.out.trans (hb2.mono HB1.out.size) | exact below_after HB1.out hb2); clear hb2))
  go_wp2_with fail
  go_ret
  exact ⟨rfl, HB2.out⟩
end Go.Proofs.Ytibcalpkmjjilaa
