/- For every code, FnThreeRows answers true: three drawn rows are just met by their solution, their determinant turns as it should, and each corner of the rows of an arch fulfills all rows and just meets three of them at least. No condition. -/
import Derived.Test.YtibcalpkmjjilaaRowD
import Derived.Test.YtibcalpkmjjilaaStandC
import Derived.Test.YtibcalpkmjjilaaThreeO
import Derived.Test.YtibcalpkmjjilaaRows
import Derived.WalkKit
import Derived.ProofKit
import Derived.OpenShut
import Derived.ShutString
import Derived.ChangeOld
import Derived.Below
namespace Go.Proofs.Ytibcalpkmjjilaa.fnThreeRows
set_option maxRecDepth 100000
open Go.ChangeShapes Go.WideShapes Go.ChangeAt Go.RowKit
open Go.ChangeMaps (open_string shut_string)
set_option linter.unusedVariables false

theorem own : ownKnob Try.prog.godebug = none := by kernel_rfl
theorem laidOut : laidOutB Try.prog = true := by kernel_rfl

/-- WHAT THE WALK IS TOLD OF A SLICE OF INTEGERS THAT CAME IN: it is nil; or it leads to a row of 'cap' cells, the numbers 'zs' (the first 'len' are its elements, the rest its spare room), each fitting its kind. -/
def IsRow (k : IntKind) (w : World) (a : Option Addr) (len cap : Nat) (zs : List Int) : Prop :=
  (a = none ∧ len = 0 ∧ cap = 0 ∧ zs = []) ∨
  ∃ x, a = some x ∧ len ≤ cap ∧ cap ≤ maxLen ∧ zs.length = cap ∧ (∀ i, i < zs.length → w.cell? (x.add i) = some (.int k (zs.getD i 0))) ∧ ∀ n ∈ zs, (Lit.int k n).wf = true

theorem jm_three {t p q r : Cd} (h : jmB t p = true ∧ jmB t q = true ∧ jmB t r = true) : (jmV t [p, q, r]).length = 3 := by
  show (jmTo t [p, q, r] 3).length = 3
  have h0 : jmB t (cd [p, q, r] 0) = true := h.1
  have h1 : jmB t (cd [p, q, r] 1) = true := h.2.1
  have h2 : jmB t (cd [p, q, r] 2) = true := h.2.2
  rw [jmTo_yes h2, jmTo_yes h1, jmTo_yes h0]
  rfl
theorem three_rows (w : World) (a1 b1 c1 d1 a2 b2 c2 d2 a3 b3 c3 d3 : Int) : Cds (w.alloc (.cells #[.int .i64 a1, .int .i64 b1, .int .i64 c1, .int .i64 d1, .int .i64 a2, .int .i64 b2, .int .i64 c2, .int .i64 d2, .int .i64 a3, .int .i64 b3, .int .i64 c3, .int .i64 d3] 25)) w.heap.size (some ⟨w.heap.size, 0, none⟩) 3 3 [(a1, b1, c1, d1), (a2, b2, c2, d2), (a3, b3, c3, d3)] :=
  ⟨World.ownsRow_lit (base := w.heap.size) (e := 25) (size := 4) w #[.int .i64 a1, .int .i64 b1, .int .i64 c1, .int .i64 d1, .int .i64 a2, .int .i64 b2, .int .i64 c2, .int .i64 d2, .int .i64 a3, .int .i64 b3, .int .i64 c3, .int .i64 d3] 3 (Nat.le_refl _) (by unfold maxLen; omega) rfl, rfl⟩
theorem coOk_some {rs : List Cd} (h : 0 < (coV rs).length) : coOk rs = true := by
  cases hc : coOk rs
  · rw [coV_no hc] at h; exact absurd h (Nat.lt_irrefl 0)
  · rfl
theorem coV_rows {rs : List Cd} (h : 0 < (coV rs).length) : rs.length ≤ 1048576 := by
  have := coOk_some h
  unfold coOk at this
  rw [Bool.and_eq_true] at this
  have := inR_iff.1 this.2
  omega
theorem corner_at {rs : List Cd} {k : Nat} (h : k < (coV rs).length) : fulAll (cd (coV rs) k).1 (cd (coV rs) k).2.1 (cd (coV rs) k).2.2.1 (cd (coV rs) k).2.2.2 rs = true ∧ 3 ≤ (jmTo (cd (coV rs) k) rs rs.length).length := by
  have hm : cd (coV rs) k ∈ coV rs := by rw [cd_get h]; exact List.getElem_mem h
  exact co_ful (coOk_some (by omega)) (coV_all _ hm)

/-! ### THE WALK: the Go text returns true, and writes nothing that was there. -/
set_option maxRecDepth 100000 in
set_option maxHeartbeats 4000000 in
theorem walk (a0 : Option Addr) (len0 cap0 : Nat) (z0 : List Int) (w : World) (g0 : IsRow .u8 w a0 len0 cap0 z0) :
    Calls Try.prog 3 #[.slice a0 len0 cap0] w fun e w' => e = .returned (.bool true) ∧ Below w.heap.size w w' := by
  have hr : IsCode w a0 len0 cap0 z0 := g0
  clear g0
  have hm := (code_cells hr).1
  unfold maxLen at hm
  by_cases hbig : 1048576 < len0
  · clear hr
    go_enter Try.func3, Try.ntmps3
    go_wp2_with (go_at_call 6; refine (big_yes _ _ _ _ (by omega) (by omega)).mono ?_; rintro e w' ⟨rfl, rfl⟩)
    go_ret
    exact ⟨rfl, Below.refl _ _⟩
  go_enter Try.func3, Try.ntmps3
  go_wp2_with fail
  refine (big_no _ _ _ _ (by omega) (by omega)).mono ?_
  rintro e w' ⟨rfl, rfl⟩
  go_wp2_with fail
  refine (drawRows _ _ _ _ _ hr).mono ?_
  rintro e w1 ⟨a1, b1, c1, d1, a2, b2, c2, d2, a3, b3, c3, d3, o1, o2, o3, rfl, hb1⟩
  have hal := (cd_al w1 (.cells #[.int .i64 a1, .int .i64 b1, .int .i64 c1, .int .i64 d1] 25)).alloc (cd_al w1 (.cells #[.int .i64 a1, .int .i64 b1, .int .i64 c1, .int .i64 d1] 25)).size (.cells #[.int .i64 a2, .int .i64 b2, .int .i64 c2, .int .i64 d2] 25)
  have hal := hal.alloc hal.size (.cells #[.int .i64 a3, .int .i64 b3, .int .i64 c3, .int .i64 d3] 25)
  have HR1 := Lib.hid ((hr.below hb1).below hal)
  have HB1 := Lib.hid (hb1.trans (hal.mono hb1.size))
  have p0 : (((w1.alloc (.cells #[.int .i64 a1, .int .i64 b1, .int .i64 c1, .int .i64 d1] 25)).alloc (.cells #[.int .i64 a2, .int .i64 b2, .int .i64 c2, .int .i64 d2] 25)).alloc (.cells #[.int .i64 a3, .int .i64 b3, .int .i64 c3, .int .i64 d3] 25)).cell? ⟨w1.heap.size, 0, none⟩ = some (.int .i64 a1) := by go_simp
  have p1 : (((w1.alloc (.cells #[.int .i64 a1, .int .i64 b1, .int .i64 c1, .int .i64 d1] 25)).alloc (.cells #[.int .i64 a2, .int .i64 b2, .int .i64 c2, .int .i64 d2] 25)).alloc (.cells #[.int .i64 a3, .int .i64 b3, .int .i64 c3, .int .i64 d3] 25)).cell? ⟨w1.heap.size, 1, none⟩ = some (.int .i64 b1) := by go_simp
  have p2 : (((w1.alloc (.cells #[.int .i64 a1, .int .i64 b1, .int .i64 c1, .int .i64 d1] 25)).alloc (.cells #[.int .i64 a2, .int .i64 b2, .int .i64 c2, .int .i64 d2] 25)).alloc (.cells #[.int .i64 a3, .int .i64 b3, .int .i64 c3, .int .i64 d3] 25)).cell? ⟨w1.heap.size, 2, none⟩ = some (.int .i64 c1) := by go_simp
  have p3 : (((w1.alloc (.cells #[.int .i64 a1, .int .i64 b1, .int .i64 c1, .int .i64 d1] 25)).alloc (.cells #[.int .i64 a2, .int .i64 b2, .int .i64 c2, .int .i64 d2] 25)).alloc (.cells #[.int .i64 a3, .int .i64 b3, .int .i64 c3, .int .i64 d3] 25)).cell? ⟨w1.heap.size, 3, none⟩ = some (.int .i64 d1) := by go_simp
  have q0 : (((w1.alloc (.cells #[.int .i64 a1, .int .i64 b1, .int .i64 c1, .int .i64 d1] 25)).alloc (.cells #[.int .i64 a2, .int .i64 b2, .int .i64 c2, .int .i64 d2] 25)).alloc (.cells #[.int .i64 a3, .int .i64 b3, .int .i64 c3, .int .i64 d3] 25)).cell? ⟨w1.heap.size + 1, 0, none⟩ = some (.int .i64 a2) := by go_simp
  have q1 : (((w1.alloc (.cells #[.int .i64 a1, .int .i64 b1, .int .i64 c1, .int .i64 d1] 25)).alloc (.cells #[.int .i64 a2, .int .i64 b2, .int .i64 c2, .int .i64 d2] 25)).alloc (.cells #[.int .i64 a3, .int .i64 b3, .int .i64 c3, .int .i64 d3] 25)).cell? ⟨w1.heap.size + 1, 1, none⟩ = some (.int .i64 b2) := by go_simp
  have q2 : (((w1.alloc (.cells #[.int .i64 a1, .int .i64 b1, .int .i64 c1, .int .i64 d1] 25)).alloc (.cells #[.int .i64 a2, .int .i64 b2, .int .i64 c2, .int .i64 d2] 25)).alloc (.cells #[.int .i64 a3, .int .i64 b3, .int .i64 c3, .int .i64 d3] 25)).cell? ⟨w1.heap.size + 1, 2, none⟩ = some (.int .i64 c2) := by go_simp
  have q3 : (((w1.alloc (.cells #[.int .i64 a1, .int .i64 b1, .int .i64 c1, .int .i64 d1] 25)).alloc (.cells #[.int .i64 a2, .int .i64 b2, .int .i64 c2, .int .i64 d2] 25)).alloc (.cells #[.int .i64 a3, .int .i64 b3, .int .i64 c3, .int .i64 d3] 25)).cell? ⟨w1.heap.size + 1, 3, none⟩ = some (.int .i64 d2) := by go_simp
  have r0 : (((w1.alloc (.cells #[.int .i64 a1, .int .i64 b1, .int .i64 c1, .int .i64 d1] 25)).alloc (.cells #[.int .i64 a2, .int .i64 b2, .int .i64 c2, .int .i64 d2] 25)).alloc (.cells #[.int .i64 a3, .int .i64 b3, .int .i64 c3, .int .i64 d3] 25)).cell? ⟨w1.heap.size + 1 + 1, 0, none⟩ = some (.int .i64 a3) := by go_simp
  have r1 : (((w1.alloc (.cells #[.int .i64 a1, .int .i64 b1, .int .i64 c1, .int .i64 d1] 25)).alloc (.cells #[.int .i64 a2, .int .i64 b2, .int .i64 c2, .int .i64 d2] 25)).alloc (.cells #[.int .i64 a3, .int .i64 b3, .int .i64 c3, .int .i64 d3] 25)).cell? ⟨w1.heap.size + 1 + 1, 1, none⟩ = some (.int .i64 b3) := by go_simp
  have r2 : (((w1.alloc (.cells #[.int .i64 a1, .int .i64 b1, .int .i64 c1, .int .i64 d1] 25)).alloc (.cells #[.int .i64 a2, .int .i64 b2, .int .i64 c2, .int .i64 d2] 25)).alloc (.cells #[.int .i64 a3, .int .i64 b3, .int .i64 c3, .int .i64 d3] 25)).cell? ⟨w1.heap.size + 1 + 1, 2, none⟩ = some (.int .i64 c3) := by go_simp
  have r3 : (((w1.alloc (.cells #[.int .i64 a1, .int .i64 b1, .int .i64 c1, .int .i64 d1] 25)).alloc (.cells #[.int .i64 a2, .int .i64 b2, .int .i64 c2, .int .i64 d2] 25)).alloc (.cells #[.int .i64 a3, .int .i64 b3, .int .i64 c3, .int .i64 d3] 25)).cell? ⟨w1.heap.size + 1 + 1, 3, none⟩ = some (.int .i64 d3) := by go_simp
  clear hr hal hb1
  have HS := Lib.hid (fun w => implSolveRows a1 b1 c1 d1 a2 b2 c2 d2 a3 b3 c3 d3 w)
  rw [show slvV (a1, b1, c1, d1) (a2, b2, c2, d2) (a3, b3, c3, d3) = .tuple #[.agg #[.int .i64 (soT (a1, b1, c1, d1) (a2, b2, c2, d2) (a3, b3, c3, d3)).1, .int .i64 (soT (a1, b1, c1, d1) (a2, b2, c2, d2) (a3, b3, c3, d3)).2.1, .int .i64 (soT (a1, b1, c1, d1) (a2, b2, c2, d2) (a3, b3, c3, d3)).2.2.1, .int .i64 (soT (a1, b1, c1, d1) (a2, b2, c2, d2) (a3, b3, c3, d3)).2.2.2], .bool (soB (a1, b1, c1, d1) (a2, b2, c2, d2) (a3, b3, c3, d3))] from rfl] at HS
  have HJ := Lib.hid (fun (h : soB (a1, b1, c1, d1) (a2, b2, c2, d2) (a3, b3, c3, d3) = true) => so_just h)
  have HD := Lib.hid (fun (h : soB (a1, b1, c1, d1) (a2, b2, c2, d2) (a3, b3, c3, d3) = true) => soB_d h)
  have HD0 := Lib.hid (fun w => implDetOfRows a1 b1 c1 d1 a2 b2 c2 d2 a3 b3 c3 d3 w)
  have HD1 := Lib.hid (fun w => implDetOfRows a2 b2 c2 d2 a3 b3 c3 d3 a1 b1 c1 d1 w)
  have HD2 := Lib.hid (fun w => implDetOfRows a2 b2 c2 d2 a1 b1 c1 d1 a3 b3 c3 d3 w)
  rw [dtV_turn] at HD1
  rw [dtV_swap] at HD2
  have hbd := (dtR_bd (p := (a1, b1, c1, d1)) (q := (a2, b2, c2, d2)) (r := (a3, b3, c3, d3)) o1 o2 o3).val
  have hyes := dtV_yes (p := (a1, b1, c1, d1)) (q := (a2, b2, c2, d2)) (r := (a3, b3, c3, d3)) o1 o2 o3
  have hbd2 : -3000000000000000 ≤ dtV (a1, b1, c1, d1) (a2, b2, c2, d2) (a3, b3, c3, d3) ∧ dtV (a1, b1, c1, d1) (a2, b2, c2, d2) (a3, b3, c3, d3) ≤ 3000000000000000 := by rw [hyes]; exact hbd
  clear hbd hyes
  obtain ⟨⟨th, tv, tm, td⟩, ht⟩ : ∃ t, soT (a1, b1, c1, d1) (a2, b2, c2, d2) (a3, b3, c3, d3) = t := ⟨_, rfl⟩
  obtain ⟨o, ho⟩ : ∃ o, soB (a1, b1, c1, d1) (a2, b2, c2, d2) (a3, b3, c3, d3) = o := ⟨_, rfl⟩
  obtain ⟨D, hD⟩ : ∃ D, dtV (a1, b1, c1, d1) (a2, b2, c2, d2) (a3, b3, c3, d3) = D := ⟨_, rfl⟩
  rw [ht, ho] at HS HJ
  rw [ho, hD] at HD
  rw [hD] at HD0 HD1 HD2 hbd2
  dsimp only at HS
  clear ht ho hD
  obtain ⟨E, hE⟩ : ∃ E, -D = E := ⟨_, rfl⟩
  rw [hE] at HD2
  have hneg : IntKind.i64.wrap (-E) = D := by rw [← hE, Int.neg_neg]; exact IntWalk.i64_in _ (by omega)
  clear hE
  have hDD : (D != D) = false := by simp
  have HRO := Lib.hid (fun w => implRowOk a1 b1 c1 d1 w)
  rw [show cdOk a1 b1 c1 d1 = true from o1] at HRO
  have HJ1 := Lib.hid (fun w => implIsJustMet th tv tm td a1 b1 c1 d1 w)
  have HJ2 := Lib.hid (fun w => implIsJustMet th tv tm td a2 b2 c2 d2 w)
  have HJ3 := Lib.hid (fun w => implIsJustMet th tv tm td a3 b3 c3 d3 w)
  have HFU := Lib.hid (fun w => implFulfills th tv tm td a1 b1 c1 d1 w)
  have HLN := Lib.hid (fun (h : o = true) => jm_three (HJ.out h))
  have HJP := Lib.hid (fun (h : o = true) => jm_ful (HJ.out h).1)
  dsimp only at HJP
  clear o1 o2 o3 hbd2
  go_wp2_with fail
  refine (HS.out _).mono ?_
  rintro e w2 ⟨rfl, hb2⟩
  have p0 := tcell p0 hb2
  have p1 := tcell p1 hb2
  have p2 := tcell p2 hb2
  have p3 := tcell p3 hb2
  have q0 := tcell q0 hb2
  have q1 := tcell q1 hb2
  have q2 := tcell q2 hb2
  have q3 := tcell q3 hb2
  have r0 := tcell r0 hb2
  have r1 := tcell r1 hb2
  have r2 := tcell r2 hb2
  have r3 := tcell r3 hb2
  have hal := cd_al w2 (.cells #[.int .i64 th, .int .i64 tv, .int .i64 tm, .int .i64 td] 29)
  have HR2 := Lib.hid ((HR1.out.below hb2).below hal)
  have HB2 := Lib.hid ((HB1.out.trans (hb2.mono HB1.out.size)).trans (hal.mono (HB1.out.trans (hb2.mono HB1.out.size)).size))
  have p0 := tcell p0 hal
  have p1 := tcell p1 hal
  have p2 := tcell p2 hal
  have p3 := tcell p3 hal
  have q0 := tcell q0 hal
  have q1 := tcell q1 hal
  have q2 := tcell q2 hal
  have q3 := tcell q3 hal
  have r0 := tcell r0 hal
  have r1 := tcell r1 hal
  have r2 := tcell r2 hal
  have r3 := tcell r3 hal
  have t0 : (w2.alloc (.cells #[.int .i64 th, .int .i64 tv, .int .i64 tm, .int .i64 td] 29)).cell? ⟨w2.heap.size, 0, none⟩ = some (.int .i64 th) := by go_simp
  have t1 : (w2.alloc (.cells #[.int .i64 th, .int .i64 tv, .int .i64 tm, .int .i64 td] 29)).cell? ⟨w2.heap.size, 1, none⟩ = some (.int .i64 tv) := by go_simp
  have t2 : (w2.alloc (.cells #[.int .i64 th, .int .i64 tv, .int .i64 tm, .int .i64 td] 29)).cell? ⟨w2.heap.size, 2, none⟩ = some (.int .i64 tm) := by go_simp
  have t3 : (w2.alloc (.cells #[.int .i64 th, .int .i64 tv, .int .i64 tm, .int .i64 td] 29)).cell? ⟨w2.heap.size, 3, none⟩ = some (.int .i64 td) := by go_simp
  clear hb2 hal HB1 HR1 HS
  go_wp2_with fail
  generalize hX : w2.alloc (.cells #[.int .i64 th, .int .i64 tv, .int .i64 tm, .int .i64 td] 29) = X at *
  clear hX
  have F0 := Lib.hid (fun (U : World) (hU : Below X.heap.size X U) => (⟨tcell p0 hU, tcell p1 hU, tcell p2 hU, tcell p3 hU, tcell q0 hU, tcell q1 hU, tcell q2 hU, tcell q3 hU, tcell r0 hU, tcell r1 hU, tcell r2 hU, tcell r3 hU, tcell t0 hU, tcell t1 hU, tcell t2 hU, tcell t3 hU⟩ : U.cell? ⟨w1.heap.size, 0, none⟩ = some (.int .i64 a1) ∧ U.cell? ⟨w1.heap.size, 1, none⟩ = some (.int .i64 b1) ∧ U.cell? ⟨w1.heap.size, 2, none⟩ = some (.int .i64 c1) ∧ U.cell? ⟨w1.heap.size, 3, none⟩ = some (.int .i64 d1) ∧ U.cell? ⟨w1.heap.size + 1, 0, none⟩ = some (.int .i64 a2) ∧ U.cell? ⟨w1.heap.size + 1, 1, none⟩ = some (.int .i64 b2) ∧ U.cell? ⟨w1.heap.size + 1, 2, none⟩ = some (.int .i64 c2) ∧ U.cell? ⟨w1.heap.size + 1, 3, none⟩ = some (.int .i64 d2) ∧ U.cell? ⟨w1.heap.size + 1 + 1, 0, none⟩ = some (.int .i64 a3) ∧ U.cell? ⟨w1.heap.size + 1 + 1, 1, none⟩ = some (.int .i64 b3) ∧ U.cell? ⟨w1.heap.size + 1 + 1, 2, none⟩ = some (.int .i64 c3) ∧ U.cell? ⟨w1.heap.size + 1 + 1, 3, none⟩ = some (.int .i64 d3) ∧ U.cell? ⟨w2.heap.size, 0, none⟩ = some (.int .i64 th) ∧ U.cell? ⟨w2.heap.size, 1, none⟩ = some (.int .i64 tv) ∧ U.cell? ⟨w2.heap.size, 2, none⟩ = some (.int .i64 tm) ∧ U.cell? ⟨w2.heap.size, 3, none⟩ = some (.int .i64 td)))
  clear p0 p1 p2 p3 q0 q1 q2 q3 r0 r1 r2 r3 t0 t1 t2 t3
  have ZZ := Lib.hid (Below.refl X.heap.size X)
  refine (HD0.out _).mono ?_
  rintro e y3 ⟨rfl, hb⟩
  have ZZ : RowKit.Hid (Below X.heap.size X y3) := Lib.hid (cstep ZZ hb)
  clear hb
  obtain ⟨p0, p1, p2, p3, q0, q1, q2, q3, r0, r1, r2, r3, t0, t1, t2, t3⟩ := F0.out _ ZZ.out
  go_wp2_with fail
  clear p0 p1 p2 p3 q0 q1 q2 q3 r0 r1 r2 r3 t0 t1 t2 t3
  refine (HD1.out _).mono ?_
  rintro e y4 ⟨rfl, hb⟩
  have ZZ : RowKit.Hid (Below X.heap.size X y4) := Lib.hid (cstep ZZ hb)
  clear hb
  obtain ⟨p0, p1, p2, p3, q0, q1, q2, q3, r0, r1, r2, r3, t0, t1, t2, t3⟩ := F0.out _ ZZ.out
  go_wp2_with fail
  clear p0 p1 p2 p3 q0 q1 q2 q3 r0 r1 r2 r3 t0 t1 t2 t3
  refine (HD2.out _).mono ?_
  rintro e y5 ⟨rfl, hb⟩
  have ZZ : RowKit.Hid (Below X.heap.size X y5) := Lib.hid (cstep ZZ hb)
  clear hb
  obtain ⟨p0, p1, p2, p3, q0, q1, q2, q3, r0, r1, r2, r3, t0, t1, t2, t3⟩ := F0.out _ ZZ.out
  have HEND : RowKit.Hid (∀ Y, Below X.heap.size X Y → True) := Lib.hid (fun _ _ => trivial)
  cases o
  · go_wp2_with fail
    refine (HRO.out _).mono ?_
    rintro e y ⟨rfl, hb⟩
    have ZZ : RowKit.Hid (Below X.heap.size X y) := Lib.hid (cstep ZZ hb)
    clear hb p0 p1 p2 p3 q0 q1 q2 q3 r0 r1 r2 r3 t0 t1 t2 t3
    go_wp2_with fail
    refine (drawStanding _ _ _ _ _ (HR2.out.below ZZ.out)).mono ?_
    rintro e y ⟨g, cp, n, js, v, ls, hjn, hn8, rfl, hrow, hlr, hb⟩
    have hzz : w.heap.size ≤ X.heap.size := HB2.out.size
    have HBY := Lib.hid (HB2.out.trans ((ZZ.out.trans (hb.mono ZZ.out.size)).mono hzz))
    clear hb ZZ F0 HJ HD HD0 HD1 HD2 HRO HJ1 HJ2 HJ3 HFU HLN HJP HR2 HB2
    have hal := cd_al y (.cells #[.slice (some ⟨g, 0, none⟩) n cp] 40)
    obtain ⟨la, lc, rfl, -⟩ := lrow_slice hlr
    have HRW := Lib.hid (JRowAt.below hrow hal)
    have HLL := Lib.hid ((show Lds y _ la ls.length lc ls from ⟨hlr, rfl⟩).below hal)
    have HBY2 := Lib.hid (HBY.out.trans (hal.mono HBY.out.size))
    have HN := Lib.hid hjn
    clear hrow hlr hal hjn HBY
    go_wp2_with fail
    refine (specRowsOf _ _ _ _ _ _ _ _ _ js ls HRW.out HN.out (by omega) HLL.out).mono ?_
    rintro e y1 ⟨v, rfl, hrow, hb⟩
    obtain ⟨ra, rn, rc, rfl, hcd⟩ := cdsOf hrow
    have HB3 := Lib.hid (HBY2.out.trans (hb.mono HBY2.out.size))
    have HC := Lib.hid hcd
    generalize rowsV js ls = rs at *
    clear hrow hb hcd HRW HLL HBY2 HN
    go_wp2_with fail
    refine (implCornersOf _ _ _ _ _ rs HC.out).mono ?_
    rintro e y2 ⟨v, rfl, hth, hb⟩
    obtain ⟨ta, tn, tc, rfl, hts⟩ := thsOf hth
    have HB4 := Lib.hid (HB3.out.trans (hb.mono HB3.out.size))
    have HC4 := Lib.hid (HC.out.below hb)
    have HTS := Lib.hid hts
    have HTN := Lib.hid hts.2
    obtain ⟨htc, htm⟩ := hts.cap
    unfold maxLen at htm
    have HCO := Lib.hid (fun k (hk : k < tn) => corner_at (rs := rs) (k := k) (by rw [hts.2]; exact hk))
    have HRL := Lib.hid (fun (h : 0 < tn) => coV_rows (rs := rs) (by rw [hts.2]; exact h))
    clear hth hb hts HB3 HC
    go_wp2_with fail
    go_loopw [13] (fun t wr => ∃ k : Nat, k ≤ tn ∧ t = .int .i64 k ∧ Below y2.heap.size y2 wr)
      (fun t _ => tn - (intOf t).toNat)
    case atStart => exact ⟨0, Nat.zero_le _, rfl, Below.refl _ _⟩
    case round =>
      obtain ⟨k, hk, rfl, hbw⟩ := hrel
      have HBW := Lib.hid hbw
      by_cases hlt : k < tn
      · obtain ⟨hf1, hf2⟩ := HCO.out k hlt
        have hrl := HRL.out (by omega)
        rw [HC4.out.2] at hrl
        obtain ⟨gt, hgt, -, x0, x1, x2, x3⟩ := (HTS.out.below hbw).at k hlt
        subst hgt
        have HC5 := Lib.hid (HC4.out.below hbw)
        have hkt : (k : Int) < (tn : Int) := by omega
        obtain ⟨⟨jx, jy, jz, ju⟩, hq⟩ : ∃ q, cd (coV rs) k = q := ⟨_, rfl⟩
        rw [hq] at x0 x1 x2 x3 hf1 hf2
        dsimp only at x0 x1 x2 x3 hf1
        have HF1 := Lib.hid hf1
        have HF2 := Lib.hid hf2
        clear hbw hf1 hf2 hq
        go_wp2_with fail
        refine (implFulfillsAll _ _ _ _ _ _ _ _ _ rs HC5.out).mono ?_
        rintro e y3 ⟨rfl, hb⟩
        rw [HF1.out]
        have HB5 := Lib.hid (HBW.out.trans (hb.mono HBW.out.size))
        have HC6 := Lib.hid (HC5.out.below hb)
        have x0 := tcell x0 hb
        have x1 := tcell x1 hb
        have x2 := tcell x2 hb
        have x3 := tcell x3 hb
        clear hb
        go_wp2_with fail
        refine (implJustMetBy _ _ _ _ _ _ _ _ _ rs HC6.out (by omega)).mono ?_
        rintro e y4 ⟨v, rfl, hin, hb⟩
        obtain ⟨xa, xn, xc, rfl, hxs⟩ := insOf hin
        have hx3 : ¬ (xn < 3) := by have h := HF2.out; have h2 := hxs.2; unfold jmV at h2; omega
        have hx4 : ¬ ((xn : Int) < 3) := by omega
        have hx5 := hxs.cap
        unfold maxLen at hx5
        have HB6 := Lib.hid (HB5.out.trans (hb.mono HB5.out.size))
        clear hb hin hxs x0 x1 x2 x3
        go_wp2_with fail
        go_roundw
        case rel => exact ⟨k + 1, by omega, by go_num, HB6.out⟩
        case measure => simp [intOf]; omega
      · have hke : k = tn := by omega
        have hnl : ¬ (k < tn) := hlt
        have HE := Lib.hid (HB4.out.trans (hbw.mono HB4.out.size))
        have HC5 := Lib.hid (HC4.out.below hbw)
        clear hbw hke
        by_cases h0 : 0 < tn
        · go_wp2_with fail
          go_ret
          exact ⟨rfl, HE.out⟩
        · have h00 : tn = 0 := by omega
          go_wp2_with fail
          refine (specCornersOf _ _ _ _ _ rs HC5.out).mono ?_
          rintro e y5 ⟨v, rfl, hth, hb⟩
          obtain ⟨sa, sn, sc, rfl, hss⟩ := thsOf hth
          have hsn : sn = 0 := by rw [← hss.2, HTN.out, h00]
          have HE2 := Lib.hid (HE.out.trans (hb.mono HE.out.size))
          clear hb hth hss
          subst hsn
          go_wp2_with fail
          go_ret
          exact ⟨rfl, HE2.out⟩
  · have hd0 : (D == 0) = false := by have := HD.out (by first | rfl | trivial); simpa using this
    go_wp2_with fail
    refine (HRO.out _).mono ?_
    rintro e y ⟨rfl, hb⟩
    have ZZ : RowKit.Hid (Below X.heap.size X y) := Lib.hid (cstep ZZ hb)
    clear hb p0 p1 p2 p3 q0 q1 q2 q3 r0 r1 r2 r3 t0 t1 t2 t3
    obtain ⟨p0, p1, p2, p3, q0, q1, q2, q3, r0, r1, r2, r3, t0, t1, t2, t3⟩ := F0.out _ ZZ.out
    go_wp2_with fail
    have HJJ := Lib.hid (HJ.out (by first | rfl | trivial))
    refine (HJ1.out _).mono ?_
    rintro e y0' ⟨rfl, hb⟩
    rw [HJJ.out.1]
    have ZZ : RowKit.Hid (Below X.heap.size X y0') := Lib.hid (cstep ZZ hb)
    clear hb p0 p1 p2 p3 q0 q1 q2 q3 r0 r1 r2 r3 t0 t1 t2 t3
    obtain ⟨p0, p1, p2, p3, q0, q1, q2, q3, r0, r1, r2, r3, t0, t1, t2, t3⟩ := F0.out _ ZZ.out
    go_wp2_with fail
    refine (HJ2.out _).mono ?_
    rintro e y1' ⟨rfl, hb⟩
    rw [HJJ.out.2.1]
    have ZZ : RowKit.Hid (Below X.heap.size X y1') := Lib.hid (cstep ZZ hb)
    clear hb p0 p1 p2 p3 q0 q1 q2 q3 r0 r1 r2 r3 t0 t1 t2 t3
    obtain ⟨p0, p1, p2, p3, q0, q1, q2, q3, r0, r1, r2, r3, t0, t1, t2, t3⟩ := F0.out _ ZZ.out
    go_wp2_with fail
    refine (HJ3.out _).mono ?_
    rintro e y2' ⟨rfl, hb⟩
    rw [HJJ.out.2.2]
    have ZZ : RowKit.Hid (Below X.heap.size X y2') := Lib.hid (cstep ZZ hb)
    clear hb p0 p1 p2 p3 q0 q1 q2 q3 r0 r1 r2 r3 t0 t1 t2 t3
    obtain ⟨p0, p1, p2, p3, q0, q1, q2, q3, r0, r1, r2, r3, t0, t1, t2, t3⟩ := F0.out _ ZZ.out
    go_wp2_with fail
    have HCD := Lib.hid (three_rows y2' a1 b1 c1 d1 a2 b2 c2 d2 a3 b3 c3 d3)
    have hal := cd_al y2' (.cells #[.int .i64 a1, .int .i64 b1, .int .i64 c1, .int .i64 d1, .int .i64 a2, .int .i64 b2, .int .i64 c2, .int .i64 d2, .int .i64 a3, .int .i64 b3, .int .i64 c3, .int .i64 d3] 25)
    have ZZ : RowKit.Hid (Below X.heap.size X (y2'.alloc (.cells #[.int .i64 a1, .int .i64 b1, .int .i64 c1, .int .i64 d1, .int .i64 a2, .int .i64 b2, .int .i64 c2, .int .i64 d2, .int .i64 a3, .int .i64 b3, .int .i64 c3, .int .i64 d3] 25))) := Lib.hid (cstep ZZ hal)
    clear hal
    refine (implJustMetBy _ _ _ _ _ _ _ _ _ [(a1, b1, c1, d1), (a2, b2, c2, d2), (a3, b3, c3, d3)] HCD.out (by omega)).mono ?_
    rintro e y ⟨v, rfl, hin, hb⟩
    obtain ⟨xa, xn, xc, rfl, hxs⟩ := insOf hin
    have hxn : xn = 3 := by rw [← hxs.2]; exact HLN.out (by first | rfl | trivial)
    subst hxn
    have ZZ : RowKit.Hid (Below X.heap.size X y) := Lib.hid (cstep ZZ hb)
    clear hb hin hxs p0 p1 p2 p3 q0 q1 q2 q3 r0 r1 r2 r3 t0 t1 t2 t3
    obtain ⟨p0, p1, p2, p3, q0, q1, q2, q3, r0, r1, r2, r3, t0, t1, t2, t3⟩ := F0.out _ ZZ.out
    go_wp2_with fail
    refine (HFU.out _).mono ?_
    rintro e y ⟨rfl, hb⟩
    rw [HJP.out (by first | rfl | trivial)]
    have ZZ : RowKit.Hid (Below X.heap.size X y) := Lib.hid (cstep ZZ hb)
    clear hb HJJ HCD p0 p1 p2 p3 q0 q1 q2 q3 r0 r1 r2 r3 t0 t1 t2 t3
    go_wp2_with fail
    refine (drawStanding _ _ _ _ _ (HR2.out.below ZZ.out)).mono ?_
    rintro e y ⟨g, cp, n, js, v, ls, hjn, hn8, rfl, hrow, hlr, hb⟩
    have hzz : w.heap.size ≤ X.heap.size := HB2.out.size
    have HBY := Lib.hid (HB2.out.trans ((ZZ.out.trans (hb.mono ZZ.out.size)).mono hzz))
    clear hb ZZ F0 HJ HD HD0 HD1 HD2 HRO HJ1 HJ2 HJ3 HFU HLN HJP HR2 HB2
    have hal := cd_al y (.cells #[.slice (some ⟨g, 0, none⟩) n cp] 40)
    obtain ⟨la, lc, rfl, -⟩ := lrow_slice hlr
    have HRW := Lib.hid (JRowAt.below hrow hal)
    have HLL := Lib.hid ((show Lds y _ la ls.length lc ls from ⟨hlr, rfl⟩).below hal)
    have HBY2 := Lib.hid (HBY.out.trans (hal.mono HBY.out.size))
    have HN := Lib.hid hjn
    clear hrow hlr hal hjn HBY
    go_wp2_with fail
    refine (specRowsOf _ _ _ _ _ _ _ _ _ js ls HRW.out HN.out (by omega) HLL.out).mono ?_
    rintro e y1 ⟨v, rfl, hrow, hb⟩
    obtain ⟨ra, rn, rc, rfl, hcd⟩ := cdsOf hrow
    have HB3 := Lib.hid (HBY2.out.trans (hb.mono HBY2.out.size))
    have HC := Lib.hid hcd
    generalize rowsV js ls = rs at *
    clear hrow hb hcd HRW HLL HBY2 HN
    go_wp2_with fail
    refine (implCornersOf _ _ _ _ _ rs HC.out).mono ?_
    rintro e y2 ⟨v, rfl, hth, hb⟩
    obtain ⟨ta, tn, tc, rfl, hts⟩ := thsOf hth
    have HB4 := Lib.hid (HB3.out.trans (hb.mono HB3.out.size))
    have HC4 := Lib.hid (HC.out.below hb)
    have HTS := Lib.hid hts
    have HTN := Lib.hid hts.2
    obtain ⟨htc, htm⟩ := hts.cap
    unfold maxLen at htm
    have HCO := Lib.hid (fun k (hk : k < tn) => corner_at (rs := rs) (k := k) (by rw [hts.2]; exact hk))
    have HRL := Lib.hid (fun (h : 0 < tn) => coV_rows (rs := rs) (by rw [hts.2]; exact h))
    clear hth hb hts HB3 HC
    go_wp2_with fail
    go_loopw [13] (fun t wr => ∃ k : Nat, k ≤ tn ∧ t = .int .i64 k ∧ Below y2.heap.size y2 wr)
      (fun t _ => tn - (intOf t).toNat)
    case atStart => exact ⟨0, Nat.zero_le _, rfl, Below.refl _ _⟩
    case round =>
      obtain ⟨k, hk, rfl, hbw⟩ := hrel
      have HBW := Lib.hid hbw
      by_cases hlt : k < tn
      · obtain ⟨hf1, hf2⟩ := HCO.out k hlt
        have hrl := HRL.out (by omega)
        rw [HC4.out.2] at hrl
        obtain ⟨gt, hgt, -, x0, x1, x2, x3⟩ := (HTS.out.below hbw).at k hlt
        subst hgt
        have HC5 := Lib.hid (HC4.out.below hbw)
        have hkt : (k : Int) < (tn : Int) := by omega
        obtain ⟨⟨jx, jy, jz, ju⟩, hq⟩ : ∃ q, cd (coV rs) k = q := ⟨_, rfl⟩
        rw [hq] at x0 x1 x2 x3 hf1 hf2
        dsimp only at x0 x1 x2 x3 hf1
        have HF1 := Lib.hid hf1
        have HF2 := Lib.hid hf2
        clear hbw hf1 hf2 hq
        go_wp2_with fail
        refine (implFulfillsAll _ _ _ _ _ _ _ _ _ rs HC5.out).mono ?_
        rintro e y3 ⟨rfl, hb⟩
        rw [HF1.out]
        have HB5 := Lib.hid (HBW.out.trans (hb.mono HBW.out.size))
        have HC6 := Lib.hid (HC5.out.below hb)
        have x0 := tcell x0 hb
        have x1 := tcell x1 hb
        have x2 := tcell x2 hb
        have x3 := tcell x3 hb
        clear hb
        go_wp2_with fail
        refine (implJustMetBy _ _ _ _ _ _ _ _ _ rs HC6.out (by omega)).mono ?_
        rintro e y4 ⟨v, rfl, hin, hb⟩
        obtain ⟨xa, xn, xc, rfl, hxs⟩ := insOf hin
        have hx3 : ¬ (xn < 3) := by have h := HF2.out; have h2 := hxs.2; unfold jmV at h2; omega
        have hx4 : ¬ ((xn : Int) < 3) := by omega
        have hx5 := hxs.cap
        unfold maxLen at hx5
        have HB6 := Lib.hid (HB5.out.trans (hb.mono HB5.out.size))
        clear hb hin hxs x0 x1 x2 x3
        go_wp2_with fail
        go_roundw
        case rel => exact ⟨k + 1, by omega, by go_num, HB6.out⟩
        case measure => simp [intOf]; omega
      · have hke : k = tn := by omega
        have hnl : ¬ (k < tn) := hlt
        have HE := Lib.hid (HB4.out.trans (hbw.mono HB4.out.size))
        have HC5 := Lib.hid (HC4.out.below hbw)
        clear hbw hke
        by_cases h0 : 0 < tn
        · go_wp2_with fail
          go_ret
          exact ⟨rfl, HE.out⟩
        · have h00 : tn = 0 := by omega
          go_wp2_with fail
          refine (specCornersOf _ _ _ _ _ rs HC5.out).mono ?_
          rintro e y5 ⟨v, rfl, hth, hb⟩
          obtain ⟨sa, sn, sc, rfl, hss⟩ := thsOf hth
          have hsn : sn = 0 := by rw [← hss.2, HTN.out, h00]
          have HE2 := Lib.hid (HE.out.trans (hb.mono HE.out.size))
          clear hb hth hss
          subst hsn
          go_wp2_with fail
          go_ret
          exact ⟨rfl, HE2.out⟩

/-! ### THE ROW's STEP -/
set_option maxRecDepth 100000 in
theorem lifted (os : Os) (started : os.Started) (H : Type) (enc : TypeId × Value → H) :
    ReturnsInHanded {} Try.checked os 3 .any (Rows.fnThreeRowsSpec.pre6 enc Try.prog Try.f3 Rows.fnThreeRowsRow.domain false) (Rows.fnThreeRowsSpec.post enc Try.prog Try.f3 false true false false) := by
  refine returnsInHanded_of_change (C := Try.checked) own started (by kernel_rfl) Try.func3
    (ChangeSpec.witness6 (enc := enc) (C := Try.checked) false ⟨#[], #[.slice none 0 0], []⟩ 8 (by kernel_rfl) (by kernel_rfl) (by kernel_rfl) (by kernel_rfl)) ?_
  intro W base args ds gs before hval0 hW hcnd _
  have hval : ∀ (j : Nat) t v, Try.f3.params[j]? = some t → args[j]? = some v → Value.okWide Try.prog W .any base t v := hval0
  have hW' := hW
  obtain ⟨p, q, hA0, hV, rfl, hfz, hnd⟩ := hW
  have hA : DataW.TrodAll enc Try.prog W 0 (fun _ => true) true Try.f3.params.toList args.toList ds p := hA0
  rw [Try.params3] at hA hval
  obtain ⟨v0, vs0, d0, ds0, p0, q0, hargs, rfl, rfl, h0, r0⟩ := trodAll_cons hA
  obtain ⟨rfl, rfl, rfl⟩ := trodAll_nil r0
  obtain rfl : args = #[v0] := by cases args; simp_all
  obtain ⟨rfl, rfl⟩ := trodVars_none hV
  have k0 := h0
  have lt0 : ∀ x ∈ p0, x.block < W.heap.size := by obtain ⟨m, hm⟩ := k0; exact DataW.trod_lt m _ _ _ hm
  obtain ⟨a0, len0, cap0, rfl⟩ := okWide_slice Try.underlying22 (hval 0 22 v0 rfl rfl)
  obtain ⟨z0, g0⟩ : ∃ zs, IsRow .u8 W a0 len0 cap0 zs := by
    obtain ⟨fuel, hf⟩ := h0
    rcases open_ints Try.underlying22 Try.underlying5 (by kernel_rfl) hf with ⟨hcs, _⟩ | ⟨x, l, c, zs, hcs, _, hl, hm, hz, _, hcell, hwz⟩
    · simp [Value.cells] at hcs
      obtain ⟨rfl, rfl, rfl⟩ := hcs
      exact ⟨[], .inl ⟨rfl, rfl, rfl, rfl⟩⟩
    · simp [Value.cells] at hcs
      obtain ⟨rfl, rfl, rfl⟩ := hcs
      exact ⟨zs, .inr ⟨_, rfl, hl, hm, by simpa using hz, hcell, hwz⟩⟩
  clear hA0 hval0
  refine (walk a0 len0 cap0 z0 W g0).mono fun e W' ⟨he, bel⟩ => ?_
  subst he
  exact ⟨_, rfl, _, _, _, [], _, [], hW', trodAll_mk1 (shut_bool Try.underlying4 _), (trodAll_cons_mk (Below.trod laidOut (by kernel_rfl) (of_decide_eq_true (by kernel_rfl)) k0 bel lt0) trodAll_mk0), rfl, bel.frame _, fun h => by cases h⟩

theorem over : Rows.fnThreeRowsRow.holds Try.pinned (OpenSpec.ofChange Rows.fnThreeRowsSpec) :=
  OpenClaim.holds_of_wide 3 Try.f3 rfl rfl rfl rfl rfl rfl rfl ⟨rfl, rfl, rfl, rfl, rfl⟩ rfl rfl rfl rfl rfl (by kernel_rfl) Try.func3 (by kernel_rfl)
    (of_decide_eq_true (by kernel_rfl)) (by unfold Func.isWrapper; first | (rw [if_pos (by decide +kernel)]; kernel_rfl) | (rw [if_neg (by decide +kernel)]; exact ⟨rfl, rfl⟩))
    (fun os started H enc _ => lifted os started H enc)

/-- THE STATEMENT. -/
theorem proved : Rows.FnThreeRowsSaid := over
#print axioms proved
end Go.Proofs.Ytibcalpkmjjilaa.fnThreeRows
