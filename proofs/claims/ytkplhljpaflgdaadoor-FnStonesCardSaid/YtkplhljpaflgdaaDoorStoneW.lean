/- The contracts of WidestOf, the program's and the model's. -/
import Derived.Test.YtkplhljpaflgdaaDoorStoneI
import Derived.Test.YtkplhljpaflgdaaDoorStoneS
namespace Go.Proofs.YtkplhljpaflgdaaDoor
open Go.ChangeShapes Go.WideShapes Go.ChangeAt Go.RowKit

/-- SquareOf two points. -/
def sqp (a b : Int × Int) : Int := sqV a.1 a.2 b.1 b.2
theorem sqp_comm (a b : Int × Int) : sqp a b = sqp b a := by
  unfold sqp sqV
  rw [Bool.and_comm]
  split
  · grind
  · rfl
theorem sqp_bd (a b : Int × Int) : -1 ≤ sqp a b ∧ sqp a b ≤ 28800 := sqV_bd _ _ _ _
theorem imax (a b : Int) : (if a < b then b else a) = max a b := by rw [Int.max_def]; split <;> split <;> omega
/-- The greatest of m and the squares of corner k and the first i ones. -/
def widIn (cs : List (Int × Int)) (k : Nat) : Nat → Int → Int
  | 0, m => m
  | i + 1, m => max (widIn cs k i m) (sqp (pt cs i) (pt cs k))
/-- The greatest square of two of the first k corners. -/
def widTo (cs : List (Int × Int)) : Nat → Int
  | 0 => 0
  | k + 1 => widIn cs k k (widTo cs k)
/-- What WidestOf answers. -/
def widV (cs : List (Int × Int)) : Int := if stoneV cs then widTo cs cs.length else -1

set_option maxHeartbeats 1000000 in
theorem implWidestOf (w : World) (B : Nat) (v : Value) (cs : List (Int × Int)) (hr : Row w B v cs) :
    Calls Tryd.prog 11 #[.agg #[v]] w fun e w' => e = .returned (.int .i64 (widV cs)) ∧ Below w.heap.size w w' := by
  have HR := Lib.hid hr
  obtain ⟨a, cap, hv, hm⟩ := row_sliceS hr
  generalize hN : cs.length = n at hv hm
  subst hv
  clear hr
  have hb0 := ((Below.refl w.heap.size w).alloc (Nat.le_refl _) (.cells #[.slice a n cap] 26))
  have HB0 := Lib.hid hb0
  have HN := Lib.hid hN
  clear hb0 hN
  cases hs : stoneV cs
  · go_enter Tryd.func11, Tryd.ntmps11
    go_wp2_with fail
    refine (implStoneOk _ B _ cs (HR.out.below HB0.out)).mono ?_
    rintro e w1 ⟨rfl, hb1⟩
    rw [hs]
    go_wp2_with fail
    go_ret
    exact ⟨ret_i64 (by unfold widV; rw [hs]; rfl), HB0.out.trans (hb1.mono (by simp <;> omega))⟩
  · go_enter Tryd.func11, Tryd.ntmps11
    go_wp2_with fail
    refine (implStoneOk _ B _ cs (HR.out.below HB0.out)).mono ?_
    rintro e w1 ⟨rfl, hb1⟩
    rw [hs]
    have s1 : w1.cell? ⟨w.heap.size, 0, none⟩ = some (.slice a n cap) := (hb1.cell (p := ⟨w.heap.size, 0, none⟩) (by simp)).trans (by go_simp)
    have hb01 := HB0.out.trans (hb1.mono (by simp <;> omega))
    have HB1 := Lib.hid hb01
    obtain ⟨g3, g6⟩ := stone_size hs
    rcases (HR.out.cases) with ⟨hz, hcn⟩ | ⟨g, cap', hg, r, -, hgw, hcap, hcm⟩
    · rw [hcn] at g3; simp at g3
    simp only [Value.slice.injEq] at hg
    obtain ⟨rfl, -, rfl⟩ := hg
    rw [HN.out] at g3 g6 hcap
    unfold maxLen at hcm
    have HR1 := Lib.hid r
    have HS := Lib.hid hs
    have S1 := Lib.hid s1
    clear hs hb01 hb1 r
    go_wp2_with fail
    go_loopw [3, 14] (fun m t wr => ∃ k : Nat, k ≤ n ∧ t = .int .i64 k ∧ m = .int .i64 (widTo cs k) ∧ Below w.heap.size w wr ∧ wr.cell? ⟨w.heap.size, 0, none⟩ = some (.slice (some ⟨g, 0, none⟩) n cap))
      (fun _ t _ => n - (intOf t).toNat)
    case atStart => exact ⟨0, Nat.zero_le _, rfl, rfl, HB1.out, S1.out⟩
    case round =>
      clear HB1 S1 s1
      obtain ⟨k, hk, rfl, rfl, hbw, hsw⟩ := hrel
      have HB := Lib.hid hbw
      have hlN := HN.out
      by_cases hlt : k < n
      · obtain ⟨a0, a1⟩ := (HR1.out.below hbw).cells k (by omega)
        have hgl : g < wr.heap.size := by have := hbw.size; omega
        have hbs := cell_block_lt hsw
        obtain ⟨⟨ax, ay⟩, ea⟩ : ∃ p, pt cs k = p := ⟨_, rfl⟩
        rw [ea] at a0 a1
        have EA := Lib.hid ea
        clear ea hbw hlN
        go_wp2_with fail
        rename World => wo
        have HBA := Lib.hid (HB.out.alloc HB.out.size (.cells #[.int .i64 ax, .int .i64 ay] 29))
        have hsa : (wo.alloc (.cells #[.int .i64 ax, .int .i64 ay] 29)).cell? ⟨w.heap.size, 0, none⟩ = some (.slice (some ⟨g, 0, none⟩) n cap) := by rw [World.cell?_alloc_lt _ _ _ (by simpa using hbs)]; exact hsw
        have HSA := Lib.hid hsa
        have hp0 : (wo.alloc (.cells #[.int .i64 ax, .int .i64 ay] 29)).cell? ⟨wo.heap.size, 0, none⟩ = some (.int .i64 ax) := by go_simp
        have hp1 : (wo.alloc (.cells #[.int .i64 ax, .int .i64 ay] 29)).cell? ⟨wo.heap.size, 1, none⟩ = some (.int .i64 ay) := by go_simp
        have HP0 := Lib.hid hp0
        have HP1 := Lib.hid hp1
        clear hsa hp0 hp1 a0 a1 hsw
        go_loopw [3, 24] (fun m t w2 => ∃ i : Nat, i ≤ k ∧ t = .int .i64 i ∧ m = .int .i64 (widIn cs k i (widTo cs k)) ∧ Below w.heap.size w w2 ∧ w2.cell? ⟨w.heap.size, 0, none⟩ = some (.slice (some ⟨g, 0, none⟩) n cap) ∧ w2.cell? ⟨wo.heap.size, 0, none⟩ = some (.int .i64 ax) ∧ w2.cell? ⟨wo.heap.size, 1, none⟩ = some (.int .i64 ay))
          (fun _ t _ => k - (intOf t).toNat)
        case atStart => exact ⟨0, Nat.zero_le _, rfl, rfl, HBA.out, HSA.out, HP0.out, HP1.out⟩
        case round =>
          clear HBA HSA HP0 HP1
          obtain ⟨i, hi, rfl, rfl, hbw, hsw, hp0, hp1⟩ := hrel
          have HB2 := Lib.hid hbw
          have hlN := HN.out
          by_cases hil : i < k
          · obtain ⟨b0, b1⟩ := (HR1.out.below hbw).cells i (by omega)
            have hgl2 : g < wr.heap.size := by have := hbw.size; omega
            have hbs2 := cell_block_lt hsw
            have hbp2 := cell_block_lt hp0
            obtain ⟨⟨bx, by_⟩, eb⟩ : ∃ p, pt cs i = p := ⟨_, rfl⟩
            rw [eb] at b0 b1
            have hmax : widIn cs k (i + 1) (widTo cs k) = max (widIn cs k i (widTo cs k)) (sqV ax ay bx by_) := by
              show max (widIn cs k i (widTo cs k)) (sqp (pt cs i) (pt cs k)) = _
              rw [sqp_comm, eb, EA.out]
              rfl
            have HM := Lib.hid hmax
            clear hmax eb hbw hlN
            generalize widIn cs k i (widTo cs k) = M at *
            have hne := Nat.ne_of_lt hbp2
            go_wp2_with fail
            refine (implSquareOf _ _ _ _ _).mono ?_
            rintro e w3 ⟨rfl, hb3⟩
            have HB3 := Lib.hid ((HB2.out.alloc HB2.out.size (.cells #[.int .i64 bx, .int .i64 by_] 29)).trans (hb3.mono (by have := HB2.out.size; simp; omega)))
            have c0 : w3.cell? ⟨w.heap.size, 0, none⟩ = some (.slice (some ⟨g, 0, none⟩) n cap) := cell_kept (by rw [World.cell?_alloc_lt _ _ _ (by simpa using hbs2)]; exact hsw) hb3
            have c1 : w3.cell? ⟨wo.heap.size, 0, none⟩ = some (.int .i64 ax) := cell_kept (by rw [World.cell?_alloc_lt _ _ _ (by simpa using hbp2)]; exact hp0) hb3
            have c2 : w3.cell? ⟨wo.heap.size, 1, none⟩ = some (.int .i64 ay) := cell_kept (by rw [World.cell?_alloc_lt _ _ _ (by simpa using hbp2)]; exact hp1) hb3
            have C0 := Lib.hid c0
            have C1 := Lib.hid c1
            have C2 := Lib.hid c2
            clear c0 c1 c2 hb3 hsw hp0 hp1 b0 b1
            generalize sqV ax ay bx by_ = Q at *
            go_wp2_with fail
            go_roundw
            case rel => exact ⟨i + 1, by omega, by go_num, by rw [HM.out, ← imax], HB3.out, C0.out, C1.out, C2.out⟩
            case measure => simp [intOf]; omega
          · have hki : i = k := by omega
            rw [hki]
            have HSW := Lib.hid hsw
            clear hbw hlN hki hsw hp0 hp1 hil hi
            go_wp2_with fail
            go_roundw
            case rel => exact ⟨k + 1, by omega, by go_num, rfl, HB2.out, HSW.out⟩
            case measure => simp [intOf]; omega
      · have hkn : k = n := by omega
        rw [hkn]
        clear hbw hlN hkn hsw hlt hk
        go_wp2_with fail
        go_ret
        exact ⟨ret_i64 (by unfold widV; rw [HS.out, HN.out]; rfl), HB.out⟩
end Go.Proofs.YtkplhljpaflgdaaDoor
