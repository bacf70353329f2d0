/- The contracts of BoxOf, the program's and the model's. -/
import Derived.Test.YtkplhljpaflgdaaDoorStoneI
import Derived.Test.YtkplhljpaflgdaaDoorStoneS
import Derived.Deep.Cut
import Derived.Deep.CutRange
namespace Go.Proofs.YtkplhljpaflgdaaDoor
open Go.ChangeShapes Go.WideShapes Go.ChangeAt Go.RowKit

/-- The least and the greatest coordinates of the first k corners (and the first one). -/
def loX (cs : List (Int × Int)) : Nat → Int
  | 0 => (pt cs 0).1
  | k + 1 => min (loX cs k) (pt cs k).1
def loY (cs : List (Int × Int)) : Nat → Int
  | 0 => (pt cs 0).2
  | k + 1 => min (loY cs k) (pt cs k).2
def hiX (cs : List (Int × Int)) : Nat → Int
  | 0 => (pt cs 0).1
  | k + 1 => max (hiX cs k) (pt cs k).1
def hiY (cs : List (Int × Int)) : Nat → Int
  | 0 => (pt cs 0).2
  | k + 1 => max (hiY cs k) (pt cs k).2
/-- What BoxOf answers. -/
def boxV (cs : List (Int × Int)) (q : List (Int × Int) → Nat → Int) : Int := if stoneV cs then q cs cs.length else 0

theorem imin (a b : Int) : (if b < a then b else a) = min a b := by rw [Int.min_def]; split <;> split <;> omega
theorem imaxB (a b : Int) : (if a < b then b else a) = max a b := by rw [Int.max_def]; split <;> split <;> omega
theorem cda (w : World) (n : Nat) (o : Obj) (a : Addr) : ((w.drewN n).alloc o).cell? a = (w.alloc o).cell? a := rfl
theorem fda (w : World) (n : Nat) (o : Obj) (a : Addr) : ((w.drewN n).alloc o).frozen? a = (w.alloc o).frozen? a := rfl
theorem cda2 (w : World) (n : Nat) (o o' : Obj) (a : Addr) : (((w.drewN n).alloc o).alloc o').cell? a = ((w.alloc o).alloc o').cell? a := rfl
theorem fda2 (w : World) (n : Nat) (o o' : Obj) (a : Addr) : (((w.drewN n).alloc o).alloc o').frozen? a = ((w.alloc o).alloc o').frozen? a := rfl
theorem below_al {a w : World} (h : Below a.heap.size a w) (o : Obj) : Below a.heap.size a (w.alloc o) := h.alloc h.size o

set_option maxHeartbeats 1000000 in
theorem implBoxOf (w : World) (B : Nat) (v : Value) (cs : List (Int × Int)) (hr : Row w B v cs) :
    Calls Tryd.prog 7 #[.agg #[v]] w fun e w' => e = .returned (.tuple #[.agg #[.int .i64 (boxV cs loX), .int .i64 (boxV cs loY)], .agg #[.int .i64 (boxV cs hiX), .int .i64 (boxV cs hiY)]]) ∧ Below w.heap.size w w' := by
  have HR := Lib.hid hr
  obtain ⟨a, cap, hv, hm⟩ := row_sliceS hr
  generalize hN : cs.length = n at hv hm
  subst hv
  clear hr
  have hb0 := ((Below.refl w.heap.size w).alloc (by simp <;> omega) (.cells #[.slice a n cap] 26) |>.alloc (by simp <;> omega) (.cells #[.int .i64 0, .int .i64 0] 29) |>.alloc (by simp <;> omega) (.cells #[.int .i64 0, .int .i64 0] 29))
  have HB0 := Lib.hid hb0
  have HN := Lib.hid hN
  clear hb0 hN
  cases hs : stoneV cs
  · have hz : ∀ q, boxV cs q = 0 := fun q => by unfold boxV; rw [hs]; rfl
    rw [hz, hz, hz, hz]
    clear hz
    go_enter Tryd.func7, Tryd.ntmps7
    go_wp2_with fail
    refine (implStoneOk _ B _ cs (HR.out.below HB0.out)).mono ?_
    rintro e w1 ⟨rfl, hb1⟩
    rw [hs]
    obtain ⟨hc1, hf1⟩ := bcell hb1
    have hz : w.heap.size + 2 < w1.heap.size := by have := hb1.size; simp at this; omega
    go_wp2_with fail
    refine bodyPost_ret (v := .tuple #[.agg #[.int .i64 0, .int .i64 0], .agg #[.int .i64 0, .int .i64 0]]) (by simp [results, Tryd.results7, go_sem, hc1]) rfl ⟨rfl, ?_⟩
    repeat (first | exact HB0.out.trans (hb1.mono (by simp <;> omega)) | refine Below.setCell ?_ (by simp <;> omega) _)
  · have hz : ∀ q, boxV cs q = q cs cs.length := fun q => by unfold boxV; rw [hs]; rfl
    rw [hz, hz, hz, hz]
    clear hz
    go_enter Tryd.func7, Tryd.ntmps7
    go_wp2_with fail
    refine (implStoneOk _ B _ cs (HR.out.below HB0.out)).mono ?_
    rintro e w1 ⟨rfl, hb1⟩
    rw [hs]
    have s1 : w1.cell? ⟨w.heap.size, 0, none⟩ = some (.slice a n cap) := (hb1.cell (p := ⟨w.heap.size, 0, none⟩) (by simp; omega)).trans (by go_simp)
    have hb01 := HB0.out.trans (hb1.mono (by simp <;> omega))
    have HB1 := Lib.hid hb01
    obtain ⟨g3, g6⟩ := stone_size hs
    rcases (HR.out.cases) with ⟨hz, hcn⟩ | ⟨g, cap', hg, r, -, hgw, hcap, hcm⟩
    · rw [hcn] at g3; simp at g3
    simp only [Value.slice.injEq] at hg
    obtain ⟨rfl, -, rfl⟩ := hg
    rw [HN.out] at g3 g6 hcap
    unfold maxLen at hcm
    have HR1 := Lib.hid r
    have HS := Lib.hid hs
    clear hs hb01 r
    have hcn : cn cs 0 = pt cs 0 := cn_lt (by have := HN.out; omega)
    have HCN := Lib.hid hcn
    clear hcn
    have hz1 : w.heap.size + 2 < w1.heap.size := by have := hb1.size; simp at this; omega
    have hC := fun (w' : World) (h : Below w1.heap.size w1 w') => cornerAt w' B g cap n cs 0 0 (HR1.out.below (HB1.out.trans (h.mono HB1.out.size))) HN.out (by omega) g6 (by omega) rfl
    rw [HCN.out] at hC
    have hC := fun (w' : World) (h : Below w1.heap.size w1 w') => (hC w' h).mono (R' := fun e w'' => e = .returned (.agg #[.int .i64 (pt cs 0).1, .int .i64 (pt cs 0).2]) ∧ ∀ u : World, Below u.heap.size u w' → Below u.heap.size u w'') (fun e w'' ⟨he, hb⟩ => ⟨he, fun u hu => hu.trans (hb.mono hu.size)⟩)
    have e0 : (pt cs 0).1 = loX cs 0 := rfl
    obtain ⟨px, hpx⟩ : ∃ px, px = (pt cs 0).1 := ⟨_, rfl⟩
    obtain ⟨py, hpy⟩ : ∃ py, py = (pt cs 0).2 := ⟨_, rfl⟩
    rw [← hpx, ← hpy] at hC
    have E0 := Lib.hid hpx
    have E1 := Lib.hid hpy
    clear hpx hpy e0
    have HC := Lib.hid hC
    have R10 := Lib.hid ((hb1.cell (p := ⟨w.heap.size + 1, 0, none⟩) (by simp <;> omega)).trans (show _ = some (.int .i64 0) by go_simp))
    have R11 := Lib.hid ((hb1.cell (p := ⟨w.heap.size + 1, 1, none⟩) (by simp <;> omega)).trans (show _ = some (.int .i64 0) by go_simp))
    have R20 := Lib.hid ((hb1.cell (p := ⟨w.heap.size + 1 + 1, 0, none⟩) (by simp <;> omega)).trans (show _ = some (.int .i64 0) by go_simp))
    have R21 := Lib.hid ((hb1.cell (p := ⟨w.heap.size + 1 + 1, 1, none⟩) (by simp <;> omega)).trans (show _ = some (.int .i64 0) by go_simp))
    have G10 := Lib.hid ((hb1.frozen (p := ⟨w.heap.size + 1, 0, none⟩) (by simp <;> omega)).trans (show _ = false by go_simp))
    have G11 := Lib.hid ((hb1.frozen (p := ⟨w.heap.size + 1, 1, none⟩) (by simp <;> omega)).trans (show _ = false by go_simp))
    have G20 := Lib.hid ((hb1.frozen (p := ⟨w.heap.size + 1 + 1, 0, none⟩) (by simp <;> omega)).trans (show _ = false by go_simp))
    have G21 := Lib.hid ((hb1.frozen (p := ⟨w.heap.size + 1 + 1, 1, none⟩) (by simp <;> omega)).trans (show _ = false by go_simp))
    clear hC hb1
    have N1 := Nat.ne_of_lt (show w.heap.size < w1.heap.size by omega)
    have N2 := Nat.ne_of_lt (show w.heap.size < w1.heap.size + 1 by omega)
    have N3 := Ne.symm N1
    have N4 := Ne.symm N2
    go_upto_region 3 with fail
    go_cut [4, 5] from 13 to 20 (fun p q wx => ∃ b4 b5 : Nat, p = .pointer (some ⟨b4, 0, none⟩) ∧ q = .pointer (some ⟨b5, 0, none⟩) ∧ w1.heap.size ≤ b4 ∧ w1.heap.size ≤ b5 ∧ b4 ≠ b5 ∧ Below w1.heap.size w1 wx ∧
      (wx.cell? ⟨b4, 0, none⟩ = some (.int .i64 px) ∧ wx.cell? ⟨b4, 1, none⟩ = some (.int .i64 py) ∧ wx.frozen? ⟨b4, 0, none⟩ = false ∧ wx.frozen? ⟨b4, 1, none⟩ = false) ∧
      (wx.cell? ⟨b5, 0, none⟩ = some (.int .i64 px) ∧ wx.cell? ⟨b5, 1, none⟩ = some (.int .i64 py) ∧ wx.frozen? ⟨b5, 0, none⟩ = false ∧ wx.frozen? ⟨b5, 1, none⟩ = false))
    case first =>
      go_region_held3 (fun w' => w'.cell? ⟨w.heap.size, 0, none⟩ = some (.slice (some ⟨g, 0, none⟩) n cap))
        (first | go_keep | trivial)
        (first
          | (go_at_call 20
             first
             | (refine (HC.out (w1.drewN 1) (below_drewN (Below.refl _ _) _)).mono ?_
                rintro e w2 ⟨rfl, H2⟩
                have HB2 := H2 w1 (below_drewN (Below.refl _ _) _)
                have s2 : w2.cell? ⟨w.heap.size, 0, none⟩ = some (.slice (some ⟨g, 0, none⟩) n cap) := cell_kept s1 HB2
                have L2 := cell_block_lt s2
                have M2 := Nat.ne_of_lt L2
                have K2 := Nat.ne_of_lt (Nat.lt_succ_of_lt L2)
                have M2' := Ne.symm M2
                have K2' := Ne.symm K2
                have lw := HB2.size)
             | (refine (HC.out ((w1.drewN 1).alloc (.cells #[.int .i64 0, .int .i64 0] 29)) (below_al (below_drewN (Below.refl _ _) _) _)).mono ?_
                rintro e w2 ⟨rfl, H2⟩
                have HB2 := H2 w1 (below_al (below_drewN (Below.refl _ _) _) _)
                have s2 : w2.cell? ⟨w.heap.size, 0, none⟩ = some (.slice (some ⟨g, 0, none⟩) n cap) := cell_kept s1 HB2
                have L2 := cell_block_lt s2
                have M2 := Nat.ne_of_lt L2
                have K2 := Nat.ne_of_lt (Nat.lt_succ_of_lt L2)
                have M2' := Ne.symm M2
                have K2' := Ne.symm K2
                have lw := HB2.size
                have a0 : w2.cell? ⟨w1.heap.size, 0, none⟩ = some (.int .i64 0) := cell_kept (w := ((w1.drewN 1).alloc (.cells #[.int .i64 0, .int .i64 0] 29))) (by rw [cda]; go_simp) (H2 _ (Below.refl _ _))
                have af0 : w2.frozen? ⟨w1.heap.size, 0, none⟩ = false := (Below.frozen (H2 _ (Below.refl _ _)) (p := ⟨w1.heap.size, 0, none⟩) (by simp <;> omega)).trans (by rw [fda]; go_simp)
                have a1 : w2.cell? ⟨w1.heap.size, 1, none⟩ = some (.int .i64 0) := cell_kept (w := ((w1.drewN 1).alloc (.cells #[.int .i64 0, .int .i64 0] 29))) (by rw [cda]; go_simp) (H2 _ (Below.refl _ _))
                have af1 : w2.frozen? ⟨w1.heap.size, 1, none⟩ = false := (Below.frozen (H2 _ (Below.refl _ _)) (p := ⟨w1.heap.size, 1, none⟩) (by simp <;> omega)).trans (by rw [fda]; go_simp)
                have al := cell_block_lt a0
                have an := Nat.ne_of_lt al
                have am := Nat.ne_of_gt al)
             | (refine (HC.out (((w1.drewN 1).alloc (.cells #[.int .i64 0, .int .i64 0] 29)).alloc (.cells #[.int .i64 0, .int .i64 0] 29)) (below_al (below_al (below_drewN (Below.refl _ _) _) _) _)).mono ?_
                rintro e w2 ⟨rfl, H2⟩
                have HB2 := H2 w1 (below_al (below_al (below_drewN (Below.refl _ _) _) _) _)
                have s2 : w2.cell? ⟨w.heap.size, 0, none⟩ = some (.slice (some ⟨g, 0, none⟩) n cap) := cell_kept s1 HB2
                have L2 := cell_block_lt s2
                have M2 := Nat.ne_of_lt L2
                have K2 := Nat.ne_of_lt (Nat.lt_succ_of_lt L2)
                have M2' := Ne.symm M2
                have K2' := Ne.symm K2
                have lw := HB2.size
                have a0 : w2.cell? ⟨w1.heap.size, 0, none⟩ = some (.int .i64 0) := cell_kept (w := (((w1.drewN 1).alloc (.cells #[.int .i64 0, .int .i64 0] 29)).alloc (.cells #[.int .i64 0, .int .i64 0] 29))) (by rw [cda2]; go_simp) (H2 _ (Below.refl _ _))
                have af0 : w2.frozen? ⟨w1.heap.size, 0, none⟩ = false := (Below.frozen (H2 _ (Below.refl _ _)) (p := ⟨w1.heap.size, 0, none⟩) (by simp <;> omega)).trans (by rw [fda2]; go_simp)
                have a1 : w2.cell? ⟨w1.heap.size, 1, none⟩ = some (.int .i64 0) := cell_kept (w := (((w1.drewN 1).alloc (.cells #[.int .i64 0, .int .i64 0] 29)).alloc (.cells #[.int .i64 0, .int .i64 0] 29))) (by rw [cda2]; go_simp) (H2 _ (Below.refl _ _))
                have af1 : w2.frozen? ⟨w1.heap.size, 1, none⟩ = false := (Below.frozen (H2 _ (Below.refl _ _)) (p := ⟨w1.heap.size, 1, none⟩) (by simp <;> omega)).trans (by rw [fda2]; go_simp)
                have al := cell_block_lt a0
                have an := Nat.ne_of_lt al
                have am := Nat.ne_of_gt al
                have b0 : w2.cell? ⟨w1.heap.size + 1, 0, none⟩ = some (.int .i64 0) := cell_kept (w := (((w1.drewN 1).alloc (.cells #[.int .i64 0, .int .i64 0] 29)).alloc (.cells #[.int .i64 0, .int .i64 0] 29))) (by rw [cda2]; go_simp) (H2 _ (Below.refl _ _))
                have bf0 : w2.frozen? ⟨w1.heap.size + 1, 0, none⟩ = false := (Below.frozen (H2 _ (Below.refl _ _)) (p := ⟨w1.heap.size + 1, 0, none⟩) (by simp <;> omega)).trans (by rw [fda2]; go_simp)
                have b1 : w2.cell? ⟨w1.heap.size + 1, 1, none⟩ = some (.int .i64 0) := cell_kept (w := (((w1.drewN 1).alloc (.cells #[.int .i64 0, .int .i64 0] 29)).alloc (.cells #[.int .i64 0, .int .i64 0] 29))) (by rw [cda2]; go_simp) (H2 _ (Below.refl _ _))
                have bf1 : w2.frozen? ⟨w1.heap.size + 1, 1, none⟩ = false := (Below.frozen (H2 _ (Below.refl _ _)) (p := ⟨w1.heap.size + 1, 1, none⟩) (by simp <;> omega)).trans (by rw [fda2]; go_simp)
                have bl := cell_block_lt b0
                have bn := Nat.ne_of_lt bl
                have bm := Nat.ne_of_gt bl)
             | (refine (HC.out ((w2.alloc (.cells #[.int .i64 0, .int .i64 0] 29)).alloc (.cells #[.int .i64 0, .int .i64 0] 29)) (below_al (below_al (HB2) _) _)).mono ?_
                rintro e w3 ⟨rfl, H3⟩
                have HB3 := H3 w1 (below_al (below_al (HB2) _) _)
                have s3 : w3.cell? ⟨w.heap.size, 0, none⟩ = some (.slice (some ⟨g, 0, none⟩) n cap) := cell_kept s1 HB3
                have L3 := cell_block_lt s3
                have M3 := Nat.ne_of_lt L3
                have K3 := Nat.ne_of_lt (Nat.lt_succ_of_lt L3)
                have M3' := Ne.symm M3
                have K3' := Ne.symm K3
                have p0 : w3.cell? ⟨w2.heap.size, 0, none⟩ = some (.int .i64 0) := cell_kept (w := ((w2.alloc (.cells #[.int .i64 0, .int .i64 0] 29)).alloc (.cells #[.int .i64 0, .int .i64 0] 29))) (by go_simp) (H3 _ (Below.refl _ _))
                have pf0 : w3.frozen? ⟨w2.heap.size, 0, none⟩ = false := (Below.frozen (H3 _ (Below.refl _ _)) (p := ⟨w2.heap.size, 0, none⟩) (by simp <;> omega)).trans (by go_simp)
                have p1 : w3.cell? ⟨w2.heap.size, 1, none⟩ = some (.int .i64 0) := cell_kept (w := ((w2.alloc (.cells #[.int .i64 0, .int .i64 0] 29)).alloc (.cells #[.int .i64 0, .int .i64 0] 29))) (by go_simp) (H3 _ (Below.refl _ _))
                have pf1 : w3.frozen? ⟨w2.heap.size, 1, none⟩ = false := (Below.frozen (H3 _ (Below.refl _ _)) (p := ⟨w2.heap.size, 1, none⟩) (by simp <;> omega)).trans (by go_simp)
                have pl := cell_block_lt p0
                have pn := Nat.ne_of_lt pl
                have pm := Nat.ne_of_gt pl
                have q0 : w3.cell? ⟨w2.heap.size + 1, 0, none⟩ = some (.int .i64 0) := cell_kept (w := ((w2.alloc (.cells #[.int .i64 0, .int .i64 0] 29)).alloc (.cells #[.int .i64 0, .int .i64 0] 29))) (by go_simp) (H3 _ (Below.refl _ _))
                have qf0 : w3.frozen? ⟨w2.heap.size + 1, 0, none⟩ = false := (Below.frozen (H3 _ (Below.refl _ _)) (p := ⟨w2.heap.size + 1, 0, none⟩) (by simp <;> omega)).trans (by go_simp)
                have q1 : w3.cell? ⟨w2.heap.size + 1, 1, none⟩ = some (.int .i64 0) := cell_kept (w := ((w2.alloc (.cells #[.int .i64 0, .int .i64 0] 29)).alloc (.cells #[.int .i64 0, .int .i64 0] 29))) (by go_simp) (H3 _ (Below.refl _ _))
                have qf1 : w3.frozen? ⟨w2.heap.size + 1, 1, none⟩ = false := (Below.frozen (H3 _ (Below.refl _ _)) (p := ⟨w2.heap.size + 1, 1, none⟩) (by simp <;> omega)).trans (by go_simp)
                have ql := cell_block_lt q0
                have qn := Nat.ne_of_lt ql
                have qm := Nat.ne_of_gt ql)
             | (refine (HC.out (w2.alloc (.cells #[.int .i64 0, .int .i64 0] 29)) (below_al (HB2) _)).mono ?_
                rintro e w3 ⟨rfl, H3⟩
                have HB3 := H3 w1 (below_al (HB2) _)
                have s3 : w3.cell? ⟨w.heap.size, 0, none⟩ = some (.slice (some ⟨g, 0, none⟩) n cap) := cell_kept s1 HB3
                have L3 := cell_block_lt s3
                have M3 := Nat.ne_of_lt L3
                have K3 := Nat.ne_of_lt (Nat.lt_succ_of_lt L3)
                have M3' := Ne.symm M3
                have K3' := Ne.symm K3
                have c0 : w3.cell? ⟨w1.heap.size, 0, none⟩ = some (.int .i64 0) := cell_kept a0 (H3 w2 (below_al (Below.refl _ _) _))
                have cf0 : w3.frozen? ⟨w1.heap.size, 0, none⟩ = false := (Below.frozen (H3 w2 (below_al (Below.refl _ _) _)) (p := ⟨w1.heap.size, 0, none⟩) (cell_block_lt a0)).trans af0
                have c1 : w3.cell? ⟨w1.heap.size, 1, none⟩ = some (.int .i64 0) := cell_kept a1 (H3 w2 (below_al (Below.refl _ _) _))
                have cf1 : w3.frozen? ⟨w1.heap.size, 1, none⟩ = false := (Below.frozen (H3 w2 (below_al (Below.refl _ _) _)) (p := ⟨w1.heap.size, 1, none⟩) (cell_block_lt a1)).trans af1
                have cl := cell_block_lt c0
                have cn := Nat.ne_of_lt cl
                have cm := Nat.ne_of_gt cl
                have p0 : w3.cell? ⟨w2.heap.size, 0, none⟩ = some (.int .i64 0) := cell_kept (w := (w2.alloc (.cells #[.int .i64 0, .int .i64 0] 29))) (by go_simp) (H3 _ (Below.refl _ _))
                have pf0 : w3.frozen? ⟨w2.heap.size, 0, none⟩ = false := (Below.frozen (H3 _ (Below.refl _ _)) (p := ⟨w2.heap.size, 0, none⟩) (by simp <;> omega)).trans (by go_simp)
                have p1 : w3.cell? ⟨w2.heap.size, 1, none⟩ = some (.int .i64 0) := cell_kept (w := (w2.alloc (.cells #[.int .i64 0, .int .i64 0] 29))) (by go_simp) (H3 _ (Below.refl _ _))
                have pf1 : w3.frozen? ⟨w2.heap.size, 1, none⟩ = false := (Below.frozen (H3 _ (Below.refl _ _)) (p := ⟨w2.heap.size, 1, none⟩) (by simp <;> omega)).trans (by go_simp)
                have pl := cell_block_lt p0
                have pn := Nat.ne_of_lt pl
                have pm := Nat.ne_of_gt pl)
             | (refine (HC.out (w2.alloc (.cells #[.int .i64 0, .int .i64 0] 29)) (below_al (HB2) _)).mono ?_
                rintro e w3 ⟨rfl, H3⟩
                have HB3 := H3 w1 (below_al (HB2) _)
                have s3 : w3.cell? ⟨w.heap.size, 0, none⟩ = some (.slice (some ⟨g, 0, none⟩) n cap) := cell_kept s1 HB3
                have L3 := cell_block_lt s3
                have M3 := Nat.ne_of_lt L3
                have K3 := Nat.ne_of_lt (Nat.lt_succ_of_lt L3)
                have M3' := Ne.symm M3
                have K3' := Ne.symm K3
                have p0 : w3.cell? ⟨w2.heap.size, 0, none⟩ = some (.int .i64 0) := cell_kept (w := (w2.alloc (.cells #[.int .i64 0, .int .i64 0] 29))) (by go_simp) (H3 _ (Below.refl _ _))
                have pf0 : w3.frozen? ⟨w2.heap.size, 0, none⟩ = false := (Below.frozen (H3 _ (Below.refl _ _)) (p := ⟨w2.heap.size, 0, none⟩) (by simp <;> omega)).trans (by go_simp)
                have p1 : w3.cell? ⟨w2.heap.size, 1, none⟩ = some (.int .i64 0) := cell_kept (w := (w2.alloc (.cells #[.int .i64 0, .int .i64 0] 29))) (by go_simp) (H3 _ (Below.refl _ _))
                have pf1 : w3.frozen? ⟨w2.heap.size, 1, none⟩ = false := (Below.frozen (H3 _ (Below.refl _ _)) (p := ⟨w2.heap.size, 1, none⟩) (by simp <;> omega)).trans (by go_simp)
                have pl := cell_block_lt p0
                have pn := Nat.ne_of_lt pl
                have pm := Nat.ne_of_gt pl)
             | (refine (HC.out w2 (HB2)).mono ?_
                rintro e w3 ⟨rfl, H3⟩
                have HB3 := H3 w1 (HB2)
                have s3 : w3.cell? ⟨w.heap.size, 0, none⟩ = some (.slice (some ⟨g, 0, none⟩) n cap) := cell_kept s1 HB3
                have L3 := cell_block_lt s3
                have M3 := Nat.ne_of_lt L3
                have K3 := Nat.ne_of_lt (Nat.lt_succ_of_lt L3)
                have M3' := Ne.symm M3
                have K3' := Ne.symm K3
                have c0 : w3.cell? ⟨w1.heap.size, 0, none⟩ = some (.int .i64 0) := cell_kept a0 (H3 w2 (Below.refl _ _))
                have cf0 : w3.frozen? ⟨w1.heap.size, 0, none⟩ = false := (Below.frozen (H3 w2 (Below.refl _ _)) (p := ⟨w1.heap.size, 0, none⟩) (cell_block_lt a0)).trans af0
                have c1 : w3.cell? ⟨w1.heap.size, 1, none⟩ = some (.int .i64 0) := cell_kept a1 (H3 w2 (Below.refl _ _))
                have cf1 : w3.frozen? ⟨w1.heap.size, 1, none⟩ = false := (Below.frozen (H3 w2 (Below.refl _ _)) (p := ⟨w1.heap.size, 1, none⟩) (cell_block_lt a1)).trans af1
                have cl := cell_block_lt c0
                have cn := Nat.ne_of_lt cl
                have cm := Nat.ne_of_gt cl
                have d0 : w3.cell? ⟨w1.heap.size + 1, 0, none⟩ = some (.int .i64 0) := cell_kept b0 (H3 w2 (Below.refl _ _))
                have df0 : w3.frozen? ⟨w1.heap.size + 1, 0, none⟩ = false := (Below.frozen (H3 w2 (Below.refl _ _)) (p := ⟨w1.heap.size + 1, 0, none⟩) (cell_block_lt b0)).trans bf0
                have d1 : w3.cell? ⟨w1.heap.size + 1, 1, none⟩ = some (.int .i64 0) := cell_kept b1 (H3 w2 (Below.refl _ _))
                have df1 : w3.frozen? ⟨w1.heap.size + 1, 1, none⟩ = false := (Below.frozen (H3 w2 (Below.refl _ _)) (p := ⟨w1.heap.size + 1, 1, none⟩) (cell_block_lt b1)).trans bf1
                have dl := cell_block_lt d0
                have dn := Nat.ne_of_lt dl
                have dm := Nat.ne_of_gt dl)
             | (refine (HC.out w2 (HB2)).mono ?_
                rintro e w3 ⟨rfl, H3⟩
                have HB3 := H3 w1 (HB2)
                have s3 : w3.cell? ⟨w.heap.size, 0, none⟩ = some (.slice (some ⟨g, 0, none⟩) n cap) := cell_kept s1 HB3
                have L3 := cell_block_lt s3
                have M3 := Nat.ne_of_lt L3
                have K3 := Nat.ne_of_lt (Nat.lt_succ_of_lt L3)
                have M3' := Ne.symm M3
                have K3' := Ne.symm K3
                have c0 : w3.cell? ⟨w1.heap.size, 0, none⟩ = some (.int .i64 0) := cell_kept a0 (H3 w2 (Below.refl _ _))
                have cf0 : w3.frozen? ⟨w1.heap.size, 0, none⟩ = false := (Below.frozen (H3 w2 (Below.refl _ _)) (p := ⟨w1.heap.size, 0, none⟩) (cell_block_lt a0)).trans af0
                have c1 : w3.cell? ⟨w1.heap.size, 1, none⟩ = some (.int .i64 0) := cell_kept a1 (H3 w2 (Below.refl _ _))
                have cf1 : w3.frozen? ⟨w1.heap.size, 1, none⟩ = false := (Below.frozen (H3 w2 (Below.refl _ _)) (p := ⟨w1.heap.size, 1, none⟩) (cell_block_lt a1)).trans af1
                have cl := cell_block_lt c0
                have cn := Nat.ne_of_lt cl
                have cm := Nat.ne_of_gt cl)
             | (refine (HC.out w2 (HB2)).mono ?_
                rintro e w3 ⟨rfl, H3⟩
                have HB3 := H3 w1 (HB2)
                have s3 : w3.cell? ⟨w.heap.size, 0, none⟩ = some (.slice (some ⟨g, 0, none⟩) n cap) := cell_kept s1 HB3)))
      all_goals
        have z3 := HB3.size
        have z2 := HB2.size
        go_wp2_with fail
        go_meet
        refine ⟨_, _, rfl, rfl, ?_, ?_, ?_, ?_, ⟨?_, ?_, ?_, ?_⟩, ⟨?_, ?_, ?_, ?_⟩⟩
      all_goals first
        | (try dsimp only at *); omega
        | (repeat (first | exact HB3 | refine Below.alloc ?_ (by simp <;> omega) _ | refine Below.setCell ?_ (by simp <;> omega) _)); done
        | exact below_al (below_al HB3 _) _
        | go_keep; done
        | go_simp; done
    case rest =>
      obtain ⟨b4, b5, rfl, rfl, h4, h5, hne, hbc, ⟨c40, c41, f40, f41⟩, ⟨c50, c51, f50, f51⟩⟩ := hcut
      have sc := cell_kept s1 hbc
      have g1 : w1.cell? ⟨w.heap.size + 1, 0, none⟩ = some (.int .i64 0) := R10.out
      have HBC := Lib.hid hbc
      have H40 := Lib.hid c40
      have H41 := Lib.hid c41
      have F40 := Lib.hid f40
      have F41 := Lib.hid f41
      have H50 := Lib.hid c50
      have H51 := Lib.hid c51
      have F50 := Lib.hid f50
      have F51 := Lib.hid f51
      clear hbc c40 c41 f40 f41 c50 c51 f50 f51 g1
      go_wp2_with fail
      go_loopw [20] (fun t w3 => ∃ k : Nat, k ≤ n ∧ t = .int .i64 k ∧ Below w1.heap.size w1 w3 ∧
        (w3.cell? ⟨b4, 0, none⟩ = some (.int .i64 (loX cs k)) ∧ w3.cell? ⟨b4, 1, none⟩ = some (.int .i64 (loY cs k)) ∧ w3.frozen? ⟨b4, 0, none⟩ = false ∧ w3.frozen? ⟨b4, 1, none⟩ = false) ∧
        (w3.cell? ⟨b5, 0, none⟩ = some (.int .i64 (hiX cs k)) ∧ w3.cell? ⟨b5, 1, none⟩ = some (.int .i64 (hiY cs k)) ∧ w3.frozen? ⟨b5, 0, none⟩ = false ∧ w3.frozen? ⟨b5, 1, none⟩ = false))
        (fun t _ => n - (intOf t).toNat)
      case atStart => exact ⟨0, Nat.zero_le _, rfl, HBC.out, ⟨H40.out.trans (by rw [E0.out]; rfl), H41.out.trans (by rw [E1.out]; rfl), F40.out, F41.out⟩, ⟨H50.out.trans (by rw [E0.out]; rfl), H51.out.trans (by rw [E1.out]; rfl), F50.out, F51.out⟩⟩
      case round =>
        clear HBC H40 H41 F40 F41 H50 H51 F50 F51
        obtain ⟨k, hk, rfl, hbw, ⟨c40, c41, f40, f41⟩, ⟨c50, c51, f50, f51⟩⟩ := hrel
        have hlN := HN.out
        have HB := Lib.hid hbw
        by_cases hlt : k < n
        · obtain ⟨a0, a1⟩ := (HR1.out.below (HB1.out.trans (hbw.mono HB1.out.size))).cells k (by omega)
          have hgl : g < wr.heap.size := by have := (HB1.out.trans (hbw.mono HB1.out.size)).size; omega
          have l4 := cell_block_lt c40
          have l5 := cell_block_lt c50
          dsimp only at l4 l5
          have n4 := Nat.ne_of_lt l4
          have n5 := Nat.ne_of_lt l5
          have n4' := Ne.symm n4
          have n5' := Ne.symm n5
          have hne' := Ne.symm hne
          have e1 : loX cs (k + 1) = min (loX cs k) (pt cs k).1 := rfl
          have e2 : loY cs (k + 1) = min (loY cs k) (pt cs k).2 := rfl
          have e3 : hiX cs (k + 1) = max (hiX cs k) (pt cs k).1 := rfl
          have e4 : hiY cs (k + 1) = max (hiY cs k) (pt cs k).2 := rfl
          have X1 := Lib.hid e1
          have X2 := Lib.hid e2
          have X3 := Lib.hid e3
          have X4 := Lib.hid e4
          clear e1 e2 e3 e4 hbw hlN
          generalize (pt cs k).1 = qx at *
          generalize (pt cs k).2 = qy at *
          generalize loX cs k = LX at *
          generalize loY cs k = LY at *
          generalize hiX cs k = HX at *
          generalize hiY cs k = HY at *
          go_wp2_with fail
          go_roundw
          case measure => simp [intOf]; omega
          case rel =>
            refine ⟨k + 1, by omega, by go_num, ?_, ⟨?_, ?_, ?_, ?_⟩, ⟨?_, ?_, ?_, ?_⟩⟩
            · repeat (first | exact HB.out | exact below_al HB.out _ | refine Below.setCell ?_ (by simp <;> omega) _ | refine Below.alloc ?_ (by simp <;> omega) _)
            · rw [X1.out, ← imin]; first | (go_simp; done) | (go_keep; done) | trace_state
            · rw [X2.out, ← imin]; first | (go_simp; done) | (go_keep; done) | trace_state
            · first | (go_simp; done) | (go_keep; done) | trace_state
            · first | (go_simp; done) | (go_keep; done) | trace_state
            · rw [X3.out, ← imaxB]; first | (go_simp; done) | (go_keep; done) | trace_state
            · rw [X4.out, ← imaxB]; first | (go_simp; done) | (go_keep; done) | trace_state
            · first | (go_simp; done) | (go_keep; done) | trace_state
            · first | (go_simp; done) | (go_keep; done) | trace_state
        · have hkn : k = n := by omega
          rw [hkn] at c40 c41 c50 c51
          have HV4 := Lib.hid c40
          have HV5 := Lib.hid c50
          have r0 := cell_kept R10.out hbw
          have r1 := cell_kept R11.out hbw
          have r2 := cell_kept R20.out hbw
          have r3 := cell_kept R21.out hbw
          have g0 : wr.frozen? ⟨w.heap.size + 1, 0, none⟩ = false := (hbw.frozen (p := ⟨w.heap.size + 1, 0, none⟩) (cell_block_lt R10.out)).trans G10.out
          have g1 : wr.frozen? ⟨w.heap.size + 1, 1, none⟩ = false := (hbw.frozen (p := ⟨w.heap.size + 1, 1, none⟩) (cell_block_lt R11.out)).trans G11.out
          have g2 : wr.frozen? ⟨w.heap.size + 1 + 1, 0, none⟩ = false := (hbw.frozen (p := ⟨w.heap.size + 1 + 1, 0, none⟩) (cell_block_lt R20.out)).trans G20.out
          have g4 : wr.frozen? ⟨w.heap.size + 1 + 1, 1, none⟩ = false := (hbw.frozen (p := ⟨w.heap.size + 1 + 1, 1, none⟩) (cell_block_lt R21.out)).trans G21.out
          clear hbw hlN hlt hk f40 f41 f50 f51
          rw [hkn]
          generalize hA : loX cs n = LX at *
          generalize hB : loY cs n = LY at *
          generalize hC : hiX cs n = HX at *
          generalize hD : hiY cs n = HY at *
          have HA := Lib.hid hA
          have HBB := Lib.hid hB
          have HCC := Lib.hid hC
          have HDD := Lib.hid hD
          clear hA hB hC hD hkn
          have q1 : w.heap.size + 1 ≠ b4 := by omega
          have q2 : w.heap.size + 1 ≠ b5 := by omega
          have q3 : w.heap.size + 1 + 1 ≠ b4 := by omega
          have q4 : w.heap.size + 1 + 1 ≠ b5 := by omega
          go_wp2_with fail
          go_region
          go_wp2_with fail
          refine bodyPost_ret (v := .tuple #[.agg #[.int .i64 LX, .int .i64 LY], .agg #[.int .i64 HX, .int .i64 HY]]) (by simp [results, Tryd.results7, go_sem, r0, r1, r2, r3]) rfl ⟨?_, ?_⟩
          · rw [HN.out, HA.out, HBB.out, HCC.out, HDD.out]
          · have hB1 := HB1.out.trans (HB.out.mono HB1.out.size)
            repeat (first | exact hB1 | refine Below.drew ?_ | refine Below.setCell ?_ (by simp <;> omega) _)
end Go.Proofs.YtkplhljpaflgdaaDoor
