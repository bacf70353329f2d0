/- The draw of a thrust and of two thrusts. -/
import Derived.Test.YtidmhpeaehmmhaaDoorDrawC
import Derived.Deep.RegionHeld3
import Derived.Test.YtidmhpeaehmmhaaDoorThrustS
namespace Go.Proofs.YtidmhpeaehmmhaaDoor
set_option maxRecDepth 100000
open Go.ChangeShapes Go.WideShapes Go.ChangeAt Go.RowKit

/-- What MakeThrust makes of drawn numbers is a small valid thrust. -/
theorem draw_small {x y z u : Int} (hx : 0 ≤ x ∧ x < 200) (hy : 0 ≤ y ∧ y < 400) (hz : 0 ≤ z ∧ z < 2001) (hu : 0 ≤ u ∧ u < 12) :
    ∃ a b c e : Int, mkV x (y - 50) (z - 1000) (1 + u) = .tuple #[.agg #[.int .i64 a, .int .i64 b, .int .i64 c, .int .i64 e], .bool true] ∧ smallT a b c e := by
  obtain ⟨hb, -, -, -, -, -, n1, n2, n3, n4⟩ := mk_small (h := x) (v := y - 50) (m := z - 1000) (d := 1 + u) (by omega) (by omega) (by omega) (by omega)
  refine ⟨_, _, _, _, by unfold mkV; rw [hb], mk_ok hb, ?_, ?_, ?_, ?_⟩ <;> omega

/-- A thrust was drawn; the cursor is as good as before; nothing else that was there was written. -/
def DrawnTh (bc : Nat) (a : Option Addr) (n cap : Nat) (w : World) (e : Ending) (w' : World) : Prop :=
  ∃ h v m d : Int, smallT h v m d ∧ e = .returned (.agg #[.int .i64 h, .int .i64 v, .int .i64 m, .int .i64 d]) ∧ CurOk w' bc a n cap ∧ w.grownBy w' (some bc)

theorem tgrown {w w' : World} (r : Option Nat) (h : Below w.heap.size w w') : w.grownBy w' r := ⟨h.os, h.tape, h.output, h.size, fun k hk _ => h.block k hk⟩
theorem tcur {w w' : World} {bc : Nat} {a : Option Addr} {n cap : Nat} (hc : CurOk w bc a n cap) (h : Below w.heap.size w w') : CurOk w' bc a n cap := hc.kept (tgrown none h) (by simp) (fun _ _ _ => by simp)

set_option maxHeartbeats 1000000 in
theorem thrust_any (w : World) (bc : Nat) (a : Option Addr) (n cap : Nat) (hc : CurOk w bc a n cap) :
    Calls Tryd.prog 15 #[.pointer (some ⟨bc, 0, none⟩)] w (DrawnTh bc a n cap w) := by
  have hlt := hc.lt
  have hcode := hc.code_lt
  go_enter Tryd.func15, Tryd.ntmps15
  go_wp2_with fail
  refine (below_any _ _ _ _ _ _ (by omega) (hc.alloc _)).mono ?_
  rintro e w1 ⟨x, ⟨hx0, hx1, -⟩, rfl, hc1, hg1⟩
  have hx2 := hx1 (by omega)
  clear hx1 hc
  go_wp2_with fail
  refine (below_any _ _ _ _ _ _ (by omega) hc1).mono ?_
  rintro e w2 ⟨y, ⟨hy0, hy1, -⟩, rfl, hc2, hg2⟩
  have hy2 := hy1 (by omega)
  clear hy1 hc1
  go_wp2_with fail
  refine (below_any _ _ _ _ _ _ (by omega) hc2).mono ?_
  rintro e w3 ⟨z, ⟨hz0, hz1, -⟩, rfl, hc3, hg3⟩
  have hz2 := hz1 (by omega)
  clear hz1 hc2
  go_wp2_with fail
  refine (below_any _ _ _ _ _ _ (by omega) hc3).mono ?_
  rintro e w4 ⟨u, ⟨hu0, hu1, -⟩, rfl, hc4, hg4⟩
  have hu2 := hu1 (by omega)
  clear hu1 hc3
  obtain ⟨ra, rb, rc, re, hv, hs⟩ := draw_small ⟨hx0, hx2⟩ ⟨hy0, hy2⟩ ⟨hz0, hz2⟩ ⟨hu0, hu2⟩
  have HK := Lib.hid (fun w => specMake x (y - 50) (z - 1000) (1 + u) w)
  rw [hv] at HK
  have HS := Lib.hid hs
  clear hv hs
  go_wp2_with fail
  refine (HK.out _).mono ?_
  rintro e w5 ⟨rfl, hb5⟩
  have G := grown_trans hg1 (grown_trans hg2 (grown_trans hg3 (grown_trans hg4 (tgrown (some bc) hb5))))
  have hc5 := tcur hc4 hb5
  clear hg1 hg2 hg3 hg4 hb5 hc4 HK
  have hl5 : w.heap.size < w5.heap.size := by have := G.size; simp at this; omega
  have hce : ∀ o, w5.cell? ⟨w.heap.size, o, none⟩ = (w.alloc (.cells #[.int .i64 0, .int .i64 0, .int .i64 0, .int .i64 0] 31)).cell? ⟨w.heap.size, o, none⟩ := fun o => World.cell?_of_block (G.block w.heap.size (by simp) (by simp; omega))
  have hfe : ∀ o, w5.frozen? ⟨w.heap.size, o, none⟩ = (w.alloc (.cells #[.int .i64 0, .int .i64 0, .int .i64 0, .int .i64 0] 31)).frozen? ⟨w.heap.size, o, none⟩ := fun o => World.frozen?_of_block (G.block w.heap.size (by simp) (by simp; omega))
  have k0 : w5.cell? ⟨w.heap.size, 0, none⟩ = some (.int .i64 0) := by rw [hce]; go_simp
  have k1 : w5.cell? ⟨w.heap.size, 1, none⟩ = some (.int .i64 0) := by rw [hce]; go_simp
  have k2 : w5.cell? ⟨w.heap.size, 2, none⟩ = some (.int .i64 0) := by rw [hce]; go_simp
  have k3 : w5.cell? ⟨w.heap.size, 3, none⟩ = some (.int .i64 0) := by rw [hce]; go_simp
  have kf : ∀ o, w5.frozen? ⟨w.heap.size, o, none⟩ = false := fun o => by rw [hfe]; go_simp
  have HG := Lib.hid G
  have HC := Lib.hid hc5
  have hne := Nat.ne_of_lt hl5
  clear hce hfe G hc5
  go_wp2_with fail
  refine World.any (p := fun W => bodyPost _ _ (DrawnTh bc a n cap w) _ _ W) (fun Z hW => ?_)
  have z0 : Z.cell? ⟨w.heap.size, 0, none⟩ = some (.int .i64 ra) := by subst hW; go_simp
  have z1 : Z.cell? ⟨w.heap.size, 1, none⟩ = some (.int .i64 rb) := by subst hW; go_simp
  have z2 : Z.cell? ⟨w.heap.size, 2, none⟩ = some (.int .i64 rc) := by subst hW; go_simp
  have z3 : Z.cell? ⟨w.heap.size, 3, none⟩ = some (.int .i64 re) := by subst hW; go_simp
  have hend : CurOk Z bc a n cap ∧ w.grownBy Z (some bc) := by
    subst hW
    have G2 : w.grownBy w5 (some bc) := grown_trans (World.grownBy_alloc w _ (some bc)) HG.out
    have G3 := grown_set (grown_set (grown_set (grown_setCell w5 w.heap.size 0 (.int .i64 ra)) 1 (.int .i64 rb)) 2 (.int .i64 rc)) 3 (.int .i64 re)
    exact ⟨(HC.out.kept_new G3 (B := w.heap.size) (fun k hk => by cases hk; exact Nat.le_refl _) hlt hcode).alloc (.cells #[.int .i64 ra, .int .i64 rb, .int .i64 rc, .int .i64 re] 31), grown_trans (grown_new G2 G3 (fun k hk => by cases hk; exact Nat.le_refl _)) (World.grownBy_alloc _ (.cells #[.int .i64 ra, .int .i64 rb, .int .i64 rc, .int .i64 re] 31) (some bc))⟩
  refine bodyPost_ret (v := .agg #[.int .i64 ra, .int .i64 rb, .int .i64 rc, .int .i64 re]) (by simp [results, Tryd.results15, go_sem, z0, z1, z2, z3]) rfl ⟨ra, rb, rc, re, HS.out, rfl, hend.1, hend.2⟩

/-- Two thrusts were drawn; of what was there nothing has turned. -/
def TwoTh (w : World) (e : Ending) (w' : World) : Prop :=
  ∃ ah av am ad bh bv bm bd : Int, smallT ah av am ad ∧ smallT bh bv bm bd ∧ e = .returned (.tuple #[.agg #[.int .i64 ah, .int .i64 av, .int .i64 am, .int .i64 ad], .agg #[.int .i64 bh, .int .i64 bv, .int .i64 bm, .int .i64 bd]]) ∧ Below w.heap.size w w'

set_option maxHeartbeats 1000000 in
theorem drawThrusts (w : World) (a : Option Addr) (n cap : Nat) (zs : List Int) (hr : IsCode w a n cap zs) :
    Calls Tryd.prog 6 #[.slice a n cap] w (TwoTh w) := by
  have hr3 : IsCode ((w.alloc (.cells #[.int .i64 0, .int .i64 0, .int .i64 0, .int .i64 0] 31)).alloc (.cells #[.int .i64 0, .int .i64 0, .int .i64 0, .int .i64 0] 31)) a n cap zs := hr.below (((Below.refl _ _).alloc (by simp <;> omega) (.cells #[.int .i64 0, .int .i64 0, .int .i64 0, .int .i64 0] 31) |>.alloc (by simp <;> omega) (.cells #[.int .i64 0, .int .i64 0, .int .i64 0, .int .i64 0] 31)))
  clear hr
  go_enter Tryd.func6, Tryd.ntmps6
  go_wp2_with fail
  refine (new_any _ _ _ _ zs hr3).mono ?_
  rintro e w1 ⟨rfl, hc1, hb1, hz1⟩
  clear hr3
  simp only [World.size_alloc] at hc1 hb1 hz1
  have HZ1 := Lib.hid hz1
  have HB1 := Lib.hid hb1
  have hl1 : w.heap.size + 1 + 1 < w1.heap.size := by omega
  clear hz1 hb1
  go_wp2_with fail
  refine (thrust_any _ _ _ _ _ hc1).mono ?_
  rintro e w2 ⟨ah, av, am, ad, ra, rfl, hc2, hg2⟩
  have hl2 := hg2.size
  clear hc1
  go_wp2_with fail
  have p0 : (w2.alloc (.cells #[.int .i64 ah, .int .i64 av, .int .i64 am, .int .i64 ad] 31)).cell? ⟨w2.heap.size, 0, none⟩ = some (.int .i64 ah) := by go_simp
  have p1 : (w2.alloc (.cells #[.int .i64 ah, .int .i64 av, .int .i64 am, .int .i64 ad] 31)).cell? ⟨w2.heap.size, 1, none⟩ = some (.int .i64 av) := by go_simp
  have p2 : (w2.alloc (.cells #[.int .i64 ah, .int .i64 av, .int .i64 am, .int .i64 ad] 31)).cell? ⟨w2.heap.size, 2, none⟩ = some (.int .i64 am) := by go_simp
  have p3 : (w2.alloc (.cells #[.int .i64 ah, .int .i64 av, .int .i64 am, .int .i64 ad] 31)).cell? ⟨w2.heap.size, 3, none⟩ = some (.int .i64 ad) := by go_simp
  have hc4 := hc2.alloc (.cells #[.int .i64 ah, .int .i64 av, .int .i64 am, .int .i64 ad] 31)
  have HG := Lib.hid (grown_trans hg2 (World.grownBy_alloc _ (.cells #[.int .i64 ah, .int .i64 av, .int .i64 am, .int .i64 ad] 31) _))
  have HRA := Lib.hid ra
  clear hg2 hc2 ra
  go_region_held3 (fun w' => w'.cell? ⟨w2.heap.size, 0, none⟩ = some (.int .i64 ah) ∧ w'.cell? ⟨w2.heap.size, 1, none⟩ = some (.int .i64 av) ∧ w'.cell? ⟨w2.heap.size, 2, none⟩ = some (.int .i64 am) ∧ w'.cell? ⟨w2.heap.size, 3, none⟩ = some (.int .i64 ad))
    (first | go_keep | trivial)
    (first | (go_at_call 15
              refine (thrust_any _ _ _ _ _ (CurOk.drewN hc4 1)).mono ?_
              rintro e w4 ⟨bh, bv, bm, bd, rb, rfl, hc5, hg5⟩
              have G5 := grown_trans (grown_drew HG.out) hg5
              obtain ⟨kc0, kf0⟩ := kept_block HB1.out G5 (by omega) w.heap.size (by omega) (by omega)
              obtain ⟨kc1, kf1⟩ := kept_block HB1.out G5 (by omega) (w.heap.size + 1) (by omega) (by omega)
              have HG5 := Lib.hid G5
              have HRB := Lib.hid rb
              have hm2 := Nat.ne_of_lt (show w.heap.size < w2.heap.size by omega)
              have hm4 := Nat.ne_of_lt (show w.heap.size + 1 < w2.heap.size by omega)
              have q0 := hg5.cell (a := ⟨w2.heap.size, 0, none⟩) (v := .int .i64 ah) p0 (by simp; omega)
              have q1 := hg5.cell (a := ⟨w2.heap.size, 1, none⟩) (v := .int .i64 av) p1 (by simp; omega)
              have q2 := hg5.cell (a := ⟨w2.heap.size, 2, none⟩) (v := .int .i64 am) p2 (by simp; omega)
              have q3 := hg5.cell (a := ⟨w2.heap.size, 3, none⟩) (v := .int .i64 ad) p3 (by simp; omega)
              have c00 : w4.cell? ⟨w.heap.size, 0, none⟩ = some (.int .i64 0) := by rw [kc0]; go_simp
              have c01 : w4.cell? ⟨w.heap.size, 1, none⟩ = some (.int .i64 0) := by rw [kc0]; go_simp
              have c02 : w4.cell? ⟨w.heap.size, 2, none⟩ = some (.int .i64 0) := by rw [kc0]; go_simp
              have c03 : w4.cell? ⟨w.heap.size, 3, none⟩ = some (.int .i64 0) := by rw [kc0]; go_simp
              have c10 : w4.cell? ⟨w.heap.size + 1, 0, none⟩ = some (.int .i64 0) := by rw [kc1]; go_simp
              have c11 : w4.cell? ⟨w.heap.size + 1, 1, none⟩ = some (.int .i64 0) := by rw [kc1]; go_simp
              have c12 : w4.cell? ⟨w.heap.size + 1, 2, none⟩ = some (.int .i64 0) := by rw [kc1]; go_simp
              have c13 : w4.cell? ⟨w.heap.size + 1, 3, none⟩ = some (.int .i64 0) := by rw [kc1]; go_simp
              clear hg5 G5 hc5 kc0 kc1 rb))
  go_wp2_with fail
  refine World.any (p := fun W => bodyPost _ _ (TwoTh w) _ _ W) (fun Z hW => ?_)
  have z0 : Z.cell? ⟨w.heap.size, 0, none⟩ = some (.int .i64 ah) := by subst hW; go_simp
  have z1 : Z.cell? ⟨w.heap.size, 1, none⟩ = some (.int .i64 av) := by subst hW; go_simp
  have z2 : Z.cell? ⟨w.heap.size, 2, none⟩ = some (.int .i64 am) := by subst hW; go_simp
  have z3 : Z.cell? ⟨w.heap.size, 3, none⟩ = some (.int .i64 ad) := by subst hW; go_simp
  have y0 : Z.cell? ⟨w.heap.size + 1, 0, none⟩ = some (.int .i64 bh) := by subst hW; go_simp
  have y1 : Z.cell? ⟨w.heap.size + 1, 1, none⟩ = some (.int .i64 bv) := by subst hW; go_simp
  have y2 : Z.cell? ⟨w.heap.size + 1, 2, none⟩ = some (.int .i64 bm) := by subst hW; go_simp
  have y3 : Z.cell? ⟨w.heap.size + 1, 3, none⟩ = some (.int .i64 bd) := by subst hW; go_simp
  have hend : Below w.heap.size w Z := by
    subst hW
    have hw1 := ((Below.refl w.heap.size w).alloc (by simp <;> omega) (.cells #[.int .i64 0, .int .i64 0, .int .i64 0, .int .i64 0] 31) |>.alloc (by simp <;> omega) (.cells #[.int .i64 0, .int .i64 0, .int .i64 0, .int .i64 0] 31)).trans (HB1.out.mono (by omega))
    have hw4 := hw1.grown HG5.out (by omega) (fun k hk => by cases hk; omega)
    repeat refine Below.setCell ?_ (by first | exact Nat.le_refl _ | exact Nat.le_add_right _ _) _
    exact hw4
  refine bodyPost_ret (v := .tuple #[.agg #[.int .i64 ah, .int .i64 av, .int .i64 am, .int .i64 ad], .agg #[.int .i64 bh, .int .i64 bv, .int .i64 bm, .int .i64 bd]]) (by simp [results, Tryd.results6, go_sem, z0, z1, z2, z3, y0, y1, y2, y3]) rfl ⟨ah, av, am, ad, bh, bv, bm, bd, HRA.out, HRB.out, rfl, hend⟩
end Go.Proofs.YtidmhpeaehmmhaaDoor
