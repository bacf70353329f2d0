/- The program's findPush. -/
import Derived.Test.YtkafkghiahljpaaPushI
import Derived.Test.YtkafkghiahljpaaLoadI
import Derived.Test.YtkafkghiahljpaaThrustC
namespace Go.Proofs.Ytkafkghiahljpaa
set_option maxRecDepth 100000
open Go.ChangeShapes Go.WideShapes Go.ChangeAt Go.RowKit

/-- A push as a value; what findPush answers. -/
abbrev pushV (jx jy jz ju r u t : Int) : Value := .agg #[.int .i64 jx, .int .i64 jy, .int .i64 jz, .int .i64 ju, .int .i64 r, .int .i64 u, .int .i64 t]
def phV (js : List Jt) (ls : List Ld) (h v m d k : Int) : Value :=
  .tuple #[pushV (phJ js ls h v m d k).1.1 (phJ js ls h v m d k).1.2 (phJ js ls h v m d k).2.1 (phJ js ls h v m d k).2.2 (phH js ls h v m d k) (phU js ls h v m d k) (phT js ls h v m d k), .bool (phOk js ls h v m d k)]
theorem phV_no {js : List Jt} {ls : List Ld} {h v m d k : Int} (hk : phOk js ls h v m d k = false) : phV js ls h v m d k = .tuple #[pushV 0 0 0 0 0 0 0, .bool false] := by
  unfold phV; rw [phJ_no hk, phH_no hk, phU_no hk, phT_no hk, hk]
theorem phV_yes {js : List Jt} {ls : List Ld} {h v m d k : Int} (hk : phOk js ls h v m d k = true) :
    phV js ls h v m d k = .tuple #[pushV (jt js k.toNat).1.1 (jt js k.toNat).1.2 (jt js k.toNat).2.1 (jt js k.toNat).2.2 h (v - d * leftF wL js ls k) (m - d * leftF mL js ls k), .bool true] := by
  unfold phV; rw [phJ_yes hk, phH_yes hk, phU_yes hk, phT_yes hk, hk]

/-- The boxes of findPush: the thrust, the push that it answers. -/
def FBox (W : World) (H : Nat) (th tv tm td : Int) : Prop :=
  W.cell? ⟨H + 1, 0, none⟩ = some (.int .i64 th) ∧ W.cell? ⟨H + 1, 1, none⟩ = some (.int .i64 tv) ∧ W.cell? ⟨H + 1, 2, none⟩ = some (.int .i64 tm) ∧ W.cell? ⟨H + 1, 3, none⟩ = some (.int .i64 td) ∧
  W.cell? ⟨H + 1 + 1, 0, none⟩ = some (.int .i64 0) ∧ W.cell? ⟨H + 1 + 1, 1, none⟩ = some (.int .i64 0) ∧ W.cell? ⟨H + 1 + 1, 2, none⟩ = some (.int .i64 0) ∧ W.cell? ⟨H + 1 + 1, 3, none⟩ = some (.int .i64 0) ∧
  W.cell? ⟨H + 1 + 1, 4, none⟩ = some (.int .i64 0) ∧ W.cell? ⟨H + 1 + 1, 5, none⟩ = some (.int .i64 0) ∧ W.cell? ⟨H + 1 + 1, 6, none⟩ = some (.int .i64 0) ∧ ∀ o, W.frozen? ⟨H + 1 + 1, o, none⟩ = false
theorem FBox.below {w w' : World} {H : Nat} {th tv tm td : Int} (h : FBox w H th tv tm td) (hb : Below w.heap.size w w') : FBox w' H th tv tm td := by
  obtain ⟨h0, h1, h2, h3, h4, h5, h6, h7, h8, h9, h10, h11⟩ := h
  exact ⟨cell_kept h0 hb, cell_kept h1 hb, cell_kept h2 hb, cell_kept h3 hb, cell_kept h4 hb, cell_kept h5 hb, cell_kept h6 hb, cell_kept h7 hb, cell_kept h8 hb, cell_kept h9 hb, cell_kept h10 hb, fun o => frozen_kept (h11 o) h4 hb⟩
theorem al_below (w : World) (o : Obj) : Below w.heap.size w (w.alloc o) := (Below.refl w.heap.size w).alloc (Nat.le_refl _) o

/-- A struct of seven cells, written into its box. -/
def set7 (w : World) (b : Nat) (a0 a1 a2 a3 a4 a5 a6 : Value) : World :=
  ((((((w.setCell ⟨b, 0, none⟩ a0).setCell ⟨b, 1, none⟩ a1).setCell ⟨b, 2, none⟩ a2).setCell ⟨b, 3, none⟩ a3).setCell ⟨b, 4, none⟩ a4).setCell ⟨b, 5, none⟩ a5).setCell ⟨b, 6, none⟩ a6
theorem set7_below {A : Nat} {a w : World} {b : Nat} (h : Below A a w) (hb : A ≤ b) (a0 a1 a2 a3 a4 a5 a6 : Value) : Below A a (set7 w b a0 a1 a2 a3 a4 a5 a6) := by
  unfold set7
  repeat refine Below.setCell ?_ (by simpa using hb) _
  exact h
set_option maxHeartbeats 1000000 in
theorem set7_cells {w : World} {H : Nat} {th tv tm td : Int} (h : FBox w H th tv tm td) (a0 a1 a2 a3 a4 a5 a6 : Value) :
    (set7 w (H + 1 + 1) a0 a1 a2 a3 a4 a5 a6).cell? ⟨H + 1 + 1, 0, none⟩ = some a0 ∧ (set7 w (H + 1 + 1) a0 a1 a2 a3 a4 a5 a6).cell? ⟨H + 1 + 1, 1, none⟩ = some a1 ∧ (set7 w (H + 1 + 1) a0 a1 a2 a3 a4 a5 a6).cell? ⟨H + 1 + 1, 2, none⟩ = some a2 ∧
    (set7 w (H + 1 + 1) a0 a1 a2 a3 a4 a5 a6).cell? ⟨H + 1 + 1, 3, none⟩ = some a3 ∧ (set7 w (H + 1 + 1) a0 a1 a2 a3 a4 a5 a6).cell? ⟨H + 1 + 1, 4, none⟩ = some a4 ∧ (set7 w (H + 1 + 1) a0 a1 a2 a3 a4 a5 a6).cell? ⟨H + 1 + 1, 5, none⟩ = some a5 ∧
    (set7 w (H + 1 + 1) a0 a1 a2 a3 a4 a5 a6).cell? ⟨H + 1 + 1, 6, none⟩ = some a6 := by
  obtain ⟨-, -, -, -, p0, p1, p2, p3, p4, p5, p6, fz⟩ := h
  unfold set7
  refine ⟨?_, ?_, ?_, ?_, ?_, ?_, ?_⟩ <;> go_simp
theorem fbox_end {w w1 Z : World} {th tv tm td : Int} (h : FBox w1 w.heap.size th tv tm td) (hb : Below w.heap.size w w1) (a0 a1 a2 a3 a4 a5 a6 : Value) (hz : Below (set7 w1 (w.heap.size + 1 + 1) a0 a1 a2 a3 a4 a5 a6).heap.size (set7 w1 (w.heap.size + 1 + 1) a0 a1 a2 a3 a4 a5 a6) Z) :
    Below w.heap.size w Z ∧ Z.cell? ⟨w.heap.size + 1 + 1, 0, none⟩ = some a0 ∧ Z.cell? ⟨w.heap.size + 1 + 1, 1, none⟩ = some a1 ∧ Z.cell? ⟨w.heap.size + 1 + 1, 2, none⟩ = some a2 ∧ Z.cell? ⟨w.heap.size + 1 + 1, 3, none⟩ = some a3 ∧
    Z.cell? ⟨w.heap.size + 1 + 1, 4, none⟩ = some a4 ∧ Z.cell? ⟨w.heap.size + 1 + 1, 5, none⟩ = some a5 ∧ Z.cell? ⟨w.heap.size + 1 + 1, 6, none⟩ = some a6 := by
  obtain ⟨h0, h1, h2, h3, h4, h5, h6⟩ := set7_cells h a0 a1 a2 a3 a4 a5 a6
  have hb1 := set7_below hb (b := w.heap.size + 1 + 1) (by omega) a0 a1 a2 a3 a4 a5 a6
  exact ⟨hb1.trans (hz.mono hb1.size), cell_kept h0 hz, cell_kept h1 hz, cell_kept h2 hz, cell_kept h3 hz, cell_kept h4 hz, cell_kept h5 hz, cell_kept h6 hz⟩

set_option maxHeartbeats 4000000 in
theorem findPush (w : World) (B B2 g cap n : Nat) (la : Option Addr) (m lc : Nat) (js : List Jt) (ls : List Ld) (th tv tm td k : Int) (hr : JRowAt w B g cap js) (hn : js.length = n) (hl : Lds w B2 la m lc ls) :
    Calls Try.prog 27 #[.agg #[.slice (some ⟨g, 0, none⟩) n cap], .slice la m lc, .agg #[.int .i64 th, .int .i64 tv, .int .i64 tm, .int .i64 td], .int .i64 k] w
      fun e w' => e = .returned (phV js ls th tv tm td k) ∧ Below w.heap.size w w' := by
  have hb0 := (((Below.refl w.heap.size w).alloc (Nat.le_refl _) (.cells #[.slice (some ⟨g, 0, none⟩) n cap] 34)).alloc (by simp) (.cells #[.int .i64 th, .int .i64 tv, .int .i64 tm, .int .i64 td] 38)).alloc (by simp <;> omega) (.cells #[.int .i64 0, .int .i64 0, .int .i64 0, .int .i64 0, .int .i64 0, .int .i64 0, .int .i64 0] 60)
  have hp0 : FBox (((w.alloc (.cells #[.slice (some ⟨g, 0, none⟩) n cap] 34)).alloc (.cells #[.int .i64 th, .int .i64 tv, .int .i64 tm, .int .i64 td] 38)).alloc (.cells #[.int .i64 0, .int .i64 0, .int .i64 0, .int .i64 0, .int .i64 0, .int .i64 0, .int .i64 0] 60)) w.heap.size th tv tm td := by
    refine ⟨?_, ?_, ?_, ?_, ?_, ?_, ?_, ?_, ?_, ?_, ?_, fun o => ?_⟩ <;> go_simp
  have HP0 := Lib.hid hp0
  have HR := Lib.hid (hr.below hb0)
  have HL := Lib.hid (hl.below hb0)
  have HB0 := Lib.hid hb0
  have HN := Lib.hid hn
  clear hr hn hl hb0 hp0
  cases h : loadsV js ls
  · have H := Lib.hid h
    have HV := Lib.hid (phV_no (phOk_l (h := th) (v := tv) (m := tm) (d := td) (k := k) h))
    clear h
    go_enter Try.func27, Try.ntmps27
    go_wp2_with fail
    refine (loadNo _ _ _ _ _ _ _ _ _ js ls HR.out HN.out HL.out H.out).mono ?_
    rintro e w1 ⟨rfl, hb1⟩
    have HB1 := Lib.hid (HB0.out.trans (hb1.mono HB0.out.size))
    have hp1 := HP0.out.below hb1
    have hlt : w.heap.size + 1 + 1 < w1.heap.size := cell_block_lt hp1.2.2.2.2.1
    clear hb1
    obtain ⟨t0, t1, t2, t3, p0, p1, p2, p3, p4, p5, p6, fz⟩ := id hp1
    go_wp2_with fail
    refine World.any (p := fun W => bodyPost _ _ _ _ _ W) (fun Z hW => ?_)
    obtain ⟨HBW, z0, z1, z2, z3, z4, z5, z6⟩ := fbox_end hp1 HB1.out _ _ _ _ _ _ _ (show Below _ (set7 w1 (w.heap.size + 1 + 1) (.int .i64 0) (.int .i64 0) (.int .i64 0) (.int .i64 0) (.int .i64 0) (.int .i64 0) (.int .i64 0)) Z by subst hW; exact al_below _ _)
    clear hW
    refine bodyPost_ret (v := .tuple #[.agg #[.int .i64 0, .int .i64 0, .int .i64 0, .int .i64 0, .int .i64 0, .int .i64 0, .int .i64 0], .bool false]) (by simp [results, Try.results27, go_sem, z0, z1, z2, z3, z4, z5, z6]) rfl ⟨by rw [HV.out], HBW⟩
  · have H := Lib.hid h
    go_enter Try.func27, Try.ntmps27
    go_wp2_with fail
    refine (loadYes _ _ _ _ _ _ _ _ _ js ls HR.out HN.out HL.out H.out).mono ?_
    rintro e w1 ⟨sg, sc, rfl, hbu, hb1⟩
    have hal := al_below w1 (.cells #[.slice (some ⟨g, 0, none⟩) n cap, .slice (some ⟨sg, 0, none⟩) (n - 1) sc, .slice la m lc] 89)
    have HBU := Lib.hid (hbu.below hal)
    have HL1 := Lib.hid ((HL.out.below hb1).below hal)
    have HR1 := Lib.hid ((HR.out.below hb1).below hal)
    have HP1 := Lib.hid ((HP0.out.below hb1).below hal)
    have hb1' := HB0.out.trans (hb1.mono HB0.out.size)
    have HB1 := Lib.hid (hb1'.trans (hal.mono hb1'.size))
    have x0 : (w1.alloc (.cells #[.slice (some ⟨g, 0, none⟩) n cap, .slice (some ⟨sg, 0, none⟩) (n - 1) sc, .slice la m lc] 89)).cell? ⟨w1.heap.size, 0, none⟩ = some (.slice (some ⟨g, 0, none⟩) n cap) := by go_simp
    have x1 : (w1.alloc (.cells #[.slice (some ⟨g, 0, none⟩) n cap, .slice (some ⟨sg, 0, none⟩) (n - 1) sc, .slice la m lc] 89)).cell? ⟨w1.heap.size, 1, none⟩ = some (.slice (some ⟨sg, 0, none⟩) (n - 1) sc) := by go_simp
    have x2 : (w1.alloc (.cells #[.slice (some ⟨g, 0, none⟩) n cap, .slice (some ⟨sg, 0, none⟩) (n - 1) sc, .slice la m lc] 89)).cell? ⟨w1.heap.size, 2, none⟩ = some (.slice la m lc) := by go_simp
    have hlt1 : w.heap.size + 1 + 1 < w1.heap.size := cell_block_lt (HP0.out.below hb1).2.2.2.2.1
    clear hb1 hbu hal hb1' HR HL HP0 HB0
    obtain ⟨t0, t1, t2, t3, -⟩ := id HP1.out
    go_wp2_with fail
    generalize hX : w1.alloc (.cells #[.slice (some ⟨g, 0, none⟩) n cap, .slice (some ⟨sg, 0, none⟩) (n - 1) sc, .slice la m lc] 89) = X at *
    have hlt2 : w1.heap.size < X.heap.size := cell_block_lt x0
    clear hX
    refine (isValidT _ _ _ _ _).mono ?_
    rintro e w2 ⟨rfl, hb2⟩
    have HP2 := Lib.hid (HP1.out.below hb2)
    have HB2 := Lib.hid (HB1.out.trans (hb2.mono HB1.out.size))
    have HBU2 := Lib.hid (HBU.out.below hb2)
    have HL2 := Lib.hid (HL1.out.below hb2)
    have HR2 := Lib.hid (HR1.out.below hb2)
    have y0 := cell_kept x0 hb2
    have y1 := cell_kept x1 hb2
    have y2 := cell_kept x2 hb2
    clear hb2 x0 x1 x2 t0 t1 t2 t3 HP1 HB1 HBU HL1 HR1
    cases ht : okT th tv tm td
    · have HV := Lib.hid (phV_no (phOk_t (js := js) (ls := ls) (k := k) ht))
      clear ht h
      obtain ⟨t0, t1, t2, t3, p0, p1, p2, p3, p4, p5, p6, fz⟩ := id HP2.out
      go_wp2_with fail
      refine World.any (p := fun W => bodyPost _ _ _ _ _ W) (fun Z hW => ?_)
      obtain ⟨HBW, z0, z1, z2, z3, z4, z5, z6⟩ := fbox_end HP2.out HB2.out _ _ _ _ _ _ _ (show Below _ (set7 _ (w.heap.size + 1 + 1) (.int .i64 0) (.int .i64 0) (.int .i64 0) (.int .i64 0) (.int .i64 0) (.int .i64 0) (.int .i64 0)) Z by subst hW; exact Below.refl _ _)
      clear hW
      refine bodyPost_ret (v := .tuple #[.agg #[.int .i64 0, .int .i64 0, .int .i64 0, .int .i64 0, .int .i64 0, .int .i64 0, .int .i64 0], .bool false]) (by simp [results, Try.results27, go_sem, z0, z1, z2, z3, z4, z5, z6]) rfl ⟨by rw [HV.out], HBW⟩
    · go_wp2_with fail
      refine (hasJoint _ n _ k _).mono ?_
      rintro e w3 ⟨rfl, rfl⟩
      by_cases hk : 0 ≤ k ∧ k < (n : Int)
      · obtain ⟨K, rfl⟩ : ∃ K : Nat, k = K := ⟨k.toNat, by omega⟩
        rw [decide_eq_true hk]
        have hV := phV_yes (phOk_yes h ht (k := (K : Int)) (by rw [HN.out]; omega))
        obtain ⟨hbw, hbm, hbu, hbt⟩ := ph_bd (K : Int) h ht
        obtain ⟨a0, a1, a2, a3⟩ := HR2.out.cells K (by rw [HN.out]; omega)
        have hlt := HR2.out.lt
        have HK := Lib.hid hk
        have hK0 : (0 : Int) ≤ (K : Int) := Int.natCast_nonneg _
        have hKn : (K : Int) < (n : Int) := hk.2
        obtain ⟨-, hgw, hcap, hcm⟩ := hlt
        rw [HN.out] at hcap
        unfold maxLen at hcm
        have HBL := Lib.hid (burdenLeft _ _ _ g n cap _ _ _ _ _ js ls (K : Int) HBU2.out HL2.out H.out HN.out)
        rw [show ((K : Int)).toNat = K from rfl] at hV
        generalize leftF wL js ls (K : Int) = W at *
        generalize leftF mL js ls (K : Int) = M at *
        generalize (jt js K).1.1 = x at *
        generalize (jt js K).1.2 = y at *
        generalize (jt js K).2.1 = z at *
        generalize (jt js K).2.2 = u at *
        have HV := Lib.hid hV
        have e1 : IntKind.i64.wrap (td * W) = td * W := IntWalk.i64_in _ (by omega)
        have e2 : IntKind.i64.wrap (tv - td * W) = tv - td * W := IntWalk.i64_in _ (by omega)
        have e3 : IntKind.i64.wrap (td * M) = td * M := IntWalk.i64_in _ (by omega)
        have e4 : IntKind.i64.wrap (tm - td * M) = tm - td * M := IntWalk.i64_in _ (by omega)
        clear hbw hbm hbu hbt hV h ht hk HR2 HL2 HBU2
        go_wp2_with fail
        refine HBL.out.mono ?_
        rintro e w4 ⟨rfl, hb4⟩
        have hal := al_below w4 (.cells #[.int .i64 W, .int .i64 M] 95)
        have HP4 := Lib.hid ((HP2.out.below hb4).below hal)
        have hb4' := HB2.out.trans (hb4.mono HB2.out.size)
        have HB4 := Lib.hid (hb4'.trans (hal.mono hb4'.size))
        have v0 := cell_kept (cell_kept y0 hb4) hal
        have b0 := cell_kept (cell_kept a0 hb4) hal
        have b1 := cell_kept (cell_kept a1 hb4) hal
        have b2 := cell_kept (cell_kept a2 hb4) hal
        have b3 := cell_kept (cell_kept a3 hb4) hal
        have l0 : (w4.alloc (.cells #[.int .i64 W, .int .i64 M] 95)).cell? ⟨w4.heap.size, 0, none⟩ = some (.int .i64 W) := by go_simp
        have l1 : (w4.alloc (.cells #[.int .i64 W, .int .i64 M] 95)).cell? ⟨w4.heap.size, 1, none⟩ = some (.int .i64 M) := by go_simp
        clear hb4 hb4' hal y0 y1 y2 a0 a1 a2 a3 HP2 HB2 HBL
        obtain ⟨t0, t1, t2, t3, p0, p1, p2, p3, p4, p5, p6, fz⟩ := id HP4.out
        go_upto_region 5 with (fail)
        generalize hX : w4.alloc (.cells #[.int .i64 W, .int .i64 M] 95) = X at *
        clear hX
        have HBX : RowKit.Hid (Below w.heap.size w X) := HB4
        have lX1 := cell_block_lt t0
        have lX2 := cell_block_lt v0
        have lX3 := cell_block_lt b0
        have lX4 := cell_block_lt l0
        dsimp only at lX1 lX2 lX3 lX4
        go_region_held3 (fun w' => w'.cell? ⟨w.heap.size + 1, 0, none⟩ = some (.int .i64 th) ∧ w'.cell? ⟨w.heap.size + 1, 1, none⟩ = some (.int .i64 tv) ∧ w'.cell? ⟨w.heap.size + 1, 2, none⟩ = some (.int .i64 tm) ∧ w'.cell? ⟨w.heap.size + 1, 3, none⟩ = some (.int .i64 td) ∧
          w'.cell? ⟨w1.heap.size, 0, none⟩ = some (.slice (some ⟨g, 0, none⟩) n cap) ∧ w'.cell? ⟨w4.heap.size, 0, none⟩ = some (.int .i64 W) ∧ w'.cell? ⟨w4.heap.size, 1, none⟩ = some (.int .i64 M) ∧
          w'.cell? ⟨g, K * 4, none⟩ = some (.int .i64 x) ∧ w'.cell? ⟨g, K * 4 + 1, none⟩ = some (.int .i64 y) ∧ w'.cell? ⟨g, K * 4 + 2, none⟩ = some (.int .i64 z) ∧ w'.cell? ⟨g, K * 4 + 3, none⟩ = some (.int .i64 u))
          (first | go_keep | trivial)
          (fail)
        clear t0 t1 t2 t3 p0 p1 p2 p3 p4 p5 p6 fz v0 b0 b1 b2 b3 l0 l1
        have hal : Below X.heap.size X (X.alloc (.cells #[.int .i64 x, .int .i64 y, .int .i64 z, .int .i64 u, .int .i64 th, .int .i64 (tv - td * W), .int .i64 (tm - td * M)] 60)).drew := tbelowD (al_below _ _)
        have HP5 := Lib.hid (HP4.out.below hal)
        have HB5 := Lib.hid (HB4.out.trans (hal.mono HB4.out.size))
        have q0 : (X.alloc (.cells #[.int .i64 x, .int .i64 y, .int .i64 z, .int .i64 u, .int .i64 th, .int .i64 (tv - td * W), .int .i64 (tm - td * M)] 60)).drew.cell? ⟨X.heap.size, 0, none⟩ = some (.int .i64 x) := by go_simp
        have q1 : (X.alloc (.cells #[.int .i64 x, .int .i64 y, .int .i64 z, .int .i64 u, .int .i64 th, .int .i64 (tv - td * W), .int .i64 (tm - td * M)] 60)).drew.cell? ⟨X.heap.size, 1, none⟩ = some (.int .i64 y) := by go_simp
        have q2 : (X.alloc (.cells #[.int .i64 x, .int .i64 y, .int .i64 z, .int .i64 u, .int .i64 th, .int .i64 (tv - td * W), .int .i64 (tm - td * M)] 60)).drew.cell? ⟨X.heap.size, 2, none⟩ = some (.int .i64 z) := by go_simp
        have q3 : (X.alloc (.cells #[.int .i64 x, .int .i64 y, .int .i64 z, .int .i64 u, .int .i64 th, .int .i64 (tv - td * W), .int .i64 (tm - td * M)] 60)).drew.cell? ⟨X.heap.size, 3, none⟩ = some (.int .i64 u) := by go_simp
        have q4 : (X.alloc (.cells #[.int .i64 x, .int .i64 y, .int .i64 z, .int .i64 u, .int .i64 th, .int .i64 (tv - td * W), .int .i64 (tm - td * M)] 60)).drew.cell? ⟨X.heap.size, 4, none⟩ = some (.int .i64 th) := by go_simp
        have q5 : (X.alloc (.cells #[.int .i64 x, .int .i64 y, .int .i64 z, .int .i64 u, .int .i64 th, .int .i64 (tv - td * W), .int .i64 (tm - td * M)] 60)).drew.cell? ⟨X.heap.size, 5, none⟩ = some (.int .i64 (tv - td * W)) := by go_simp
        have q6 : (X.alloc (.cells #[.int .i64 x, .int .i64 y, .int .i64 z, .int .i64 u, .int .i64 th, .int .i64 (tv - td * W), .int .i64 (tm - td * M)] 60)).drew.cell? ⟨X.heap.size, 6, none⟩ = some (.int .i64 (tm - td * M)) := by go_simp
        have lt0 := cell_block_lt HP4.out.2.2.2.2.1
        dsimp only at lt0
        have lt1 := Nat.ne_of_lt lt0
        clear hal HP4 HB4 HBX
        generalize (X.alloc (.cells #[.int .i64 x, .int .i64 y, .int .i64 z, .int .i64 u, .int .i64 th, .int .i64 (tv - td * W), .int .i64 (tm - td * M)] 60)).drew = Y at *
        obtain ⟨t0, t1, t2, t3, p0, p1, p2, p3, p4, p5, p6, fz⟩ := id HP5.out
        go_wp2_with fail
        refine World.any (p := fun W => bodyPost _ _ _ _ _ W) (fun Z hW => ?_)
        obtain ⟨HBW, z0, z1, z2, z3, z4, z5, z6⟩ := fbox_end HP5.out HB5.out _ _ _ _ _ _ _ (show Below _ (set7 _ (w.heap.size + 1 + 1) (.int .i64 x) (.int .i64 y) (.int .i64 z) (.int .i64 u) (.int .i64 th) (.int .i64 (tv - td * W)) (.int .i64 (tm - td * M))) Z by subst hW; exact Below.refl _ _)
        clear hW
        refine bodyPost_ret (v := .tuple #[.agg #[.int .i64 x, .int .i64 y, .int .i64 z, .int .i64 u, .int .i64 th, .int .i64 (tv - td * W), .int .i64 (tm - td * M)], .bool true]) (by simp [results, Try.results27, go_sem, z0, z1, z2, z3, z4, z5, z6]) rfl ⟨by rw [HV.out], HBW⟩
      · rw [decide_eq_false hk]
        have HV := Lib.hid (phV_no (phOk_k (js := js) (ls := ls) (h := th) (v := tv) (m := tm) (d := td) (k := k) (by rw [HN.out]; omega)))
        clear ht h hk
        obtain ⟨t0, t1, t2, t3, p0, p1, p2, p3, p4, p5, p6, fz⟩ := id HP2.out
        go_wp2_with fail
        refine World.any (p := fun W => bodyPost _ _ _ _ _ W) (fun Z hW => ?_)
        obtain ⟨HBW, z0, z1, z2, z3, z4, z5, z6⟩ := fbox_end HP2.out HB2.out _ _ _ _ _ _ _ (show Below _ (set7 _ (w.heap.size + 1 + 1) (.int .i64 0) (.int .i64 0) (.int .i64 0) (.int .i64 0) (.int .i64 0) (.int .i64 0) (.int .i64 0)) Z by subst hW; exact Below.refl _ _)
        clear hW
        refine bodyPost_ret (v := .tuple #[.agg #[.int .i64 0, .int .i64 0, .int .i64 0, .int .i64 0, .int .i64 0, .int .i64 0, .int .i64 0], .bool false]) (by simp [results, Try.results27, go_sem, z0, z1, z2, z3, z4, z5, z6]) rfl ⟨by rw [HV.out], HBW⟩
end Go.Proofs.Ytkafkghiahljpaa
