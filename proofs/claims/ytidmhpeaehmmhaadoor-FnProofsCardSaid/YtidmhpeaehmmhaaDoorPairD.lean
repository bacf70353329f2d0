/- The draw of conditions and a proof. By program (gen_pair.py). -/
import Derived.Test.YtidmhpeaehmmhaaDoorDrawR
import Derived.Test.YtidmhpeaehmmhaaDoorProofM
import Derived.Test.YtidmhpeaehmmhaaDoorCondA
namespace Go.Proofs.YtidmhpeaehmmhaaDoor
set_option maxRecDepth 100000
open Go.ChangeShapes Go.WideShapes Go.ChangeAt Go.RowKit
set_option linter.unusedSimpArgs false
set_option linter.unusedVariables false

theorem heapD_new (w : World) (o : Obj) : (w.alloc o).heap[w.heap.size]? = some o := Array.getElem?_push_size
theorem gst_drew {w y : World} {n : Nat} {r : Option Nat} (h : (w.drewN n).grownBy y r) : w.grownBy y r := ⟨h.os, h.tape, h.output, h.size, h.block⟩
theorem gst_al {w y : World} {o : Obj} {r : Option Nat} (h : (w.alloc o).grownBy y r) : w.grownBy y r := grown_trans (World.grownBy_alloc w o r) h
theorem gst_dal {w y : World} {n : Nat} {o : Obj} {r : Option Nat} (h : ((w.drewN n).alloc o).grownBy y r) : w.grownBy y r := gst_drew (gst_al h)
theorem sb_al {w y : World} {bc : Nat} {t : TypeId} (h : (w.alloc (.cells #[.int .i64 0, .int .i64 0, .int .i64 0, .int .i64 0] t)).grownBy y (some bc)) (hb : bc < w.heap.size) : SBox y w.heap.size 0 0 0 0 := (sbox_new w 0 0 0 0 t).grown h (by simp; omega)
theorem sb_dal {w y : World} {n bc : Nat} {t : TypeId} (h : ((w.drewN n).alloc (.cells #[.int .i64 0, .int .i64 0, .int .i64 0, .int .i64 0] t)).grownBy y (some bc)) (hb : bc < w.heap.size) : SBox y w.heap.size 0 0 0 0 := sb_al (w := w.drewN n) h hb
theorem cds_lit3 (w : World) (B : Nat) (hB : B ≤ w.heap.size) (a b c d e f g h i j k l : Int) : Cds (w.alloc (.cells #[.int .i64 a, .int .i64 b, .int .i64 c, .int .i64 d, .int .i64 e, .int .i64 f, .int .i64 g, .int .i64 h, .int .i64 i, .int .i64 j, .int .i64 k, .int .i64 l] 41)) B (some ⟨w.heap.size, 0, none⟩) 3 3 [(a, b, c, d), (e, f, g, h), (i, j, k, l)] :=
  ⟨World.ownsRow_lit (base := B) (e := 41) (size := 4) w #[.int .i64 a, .int .i64 b, .int .i64 c, .int .i64 d, .int .i64 e, .int .i64 f, .int .i64 g, .int .i64 h, .int .i64 i, .int .i64 j, .int .i64 k, .int .i64 l] 3 hB (by unfold maxLen; omega) rfl, rfl⟩
theorem ins_lit2 (w : World) (B : Nat) (hB : B ≤ w.heap.size) (a b : Int) : Ins (w.alloc (.cells #[.int .i64 a, .int .i64 b] 3)) B (some ⟨w.heap.size, 0, none⟩) 2 2 [a, b] :=
  ⟨World.ownsRow_lit (base := B) (e := 3) (size := 1) w #[.int .i64 a, .int .i64 b] 2 hB (by unfold maxLen; omega) rfl, rfl⟩
theorem Cds.keptG {w w' : World} {B m cap g : Nat} {rs : List Cd} {row : Option Nat} (h : Cds w B (some ⟨g, 0, none⟩) m cap rs) (hg : w.grownBy w' row) (hne : some g ≠ row) : Cds w' B (some ⟨g, 0, none⟩) m cap rs :=
  ⟨World.ownsRow.kept h.1 hg (.inr (by simpa [Value.ownBlock] using hne)), h.2⟩
theorem Ins.keptG {w w' : World} {B m c g : Nat} {l : List Int} {row : Option Nat} (h : Ins w B (some ⟨g, 0, none⟩) m c l) (hg : w.grownBy w' row) (hne : some g ≠ row) : Ins w' B (some ⟨g, 0, none⟩) m c l :=
  ⟨World.ownsRow.kept h.1 hg (.inr (by simpa [Value.ownBlock] using hne)), h.2⟩
theorem Ins.ltG {w : World} {B m c g : Nat} {l : List Int} (h : Ins w B (some ⟨g, 0, none⟩) m c l) : B ≤ g ∧ g < w.heap.size := World.ownsRow.lt h.1 g rfl
theorem Cds.ltG {w : World} {B m c g : Nat} {rs : List Cd} (h : Cds w B (some ⟨g, 0, none⟩) m c rs) : B ≤ g ∧ g < w.heap.size := World.ownsRow.lt h.1 g rfl
/-- What the draw has at hand. -/
structure Drn (w : World) (bc : Nat) (a : Option Addr) (n cap : Nat) (W : World) (gr gp gf bp m fc : Nat) (rs : List Cd) (ps fs : List Int) : Prop where
  cur : CurOk W bc a n cap
  grown : w.grownBy W (some bc)
  res : FreshP w.heap.size W
  rows : Cds W (w.heap.size + 1) (some ⟨gr, 0, none⟩) 3 3 rs
  ps : Ins W (w.heap.size + 1) (some ⟨gp, 0, none⟩) 2 2 ps
  fs : Ins W (w.heap.size + 1) (some ⟨gf, 0, none⟩) m fc fs
  box : PBox W bp (some ⟨gp, 0, none⟩) 2 2 (some ⟨gf, 0, none⟩) m fc
  fz : W.frozen? ⟨bp, 1, none⟩ = false
  ne : gr ≠ gp ∧ gr ≠ gf ∧ gp ≠ gf ∧ bp ≠ gr ∧ bp ≠ gp ∧ bp ≠ gf ∧ w.heap.size < bp
theorem Drn.bplt {w W : World} {bc : Nat} {a : Option Addr} {n cap gr gp gf bp m fc : Nat} {rs : List Cd} {ps fs : List Int} (h : Drn w bc a n cap W gr gp gf bp m fc rs ps fs) : bp < W.heap.size := cell_block_lt h.box.1
/-- Whatever writes at the cursor alone keeps it. -/
theorem Drn.step {w W W' : World} {bc : Nat} {a : Option Addr} {n cap gr gp gf bp m fc : Nat} {rs : List Cd} {ps fs : List Int} (h : Drn w bc a n cap W gr gp gf bp m fc rs ps fs) (hlt : bc < w.heap.size) (hg : W.grownBy W' (some bc)) (hc : CurOk W' bc a n cap) :
    Drn w bc a n cap W' gr gp gf bp m fc rs ps fs := by
  have k1 := h.rows.ltG
  have k2 := h.ps.ltG
  have k3 := h.fs.ltG
  have k4 := h.ne
  exact ⟨hc, grown_trans h.grown hg, fp_grown h.res hg (by simp; omega), h.rows.keptG hg (by simp; omega), h.ps.keptG hg (by simp; omega), h.fs.keptG hg (by simp; omega), h.box.grown hg (by simp; omega), (World.grownBy.frozen_far hg ⟨bp, 1, none⟩ h.bplt (by simp; omega)).trans h.fz, h.ne⟩
theorem Drn.alloc {w W : World} {bc : Nat} {a : Option Addr} {n cap gr gp gf bp m fc : Nat} {rs : List Cd} {ps fs : List Int} (h : Drn w bc a n cap W gr gp gf bp m fc rs ps fs) (hlt : bc < w.heap.size) (o : Obj) : Drn w bc a n cap (W.alloc o) gr gp gf bp m fc rs ps fs :=
  h.step hlt (World.grownBy_alloc W o (some bc)) (h.cur.alloc o)
theorem sbox_set4 {w : World} {H : Nat} {a b c d : Int} (x : SBox w H a b c d) (a' b' c' d' : Int) :
    SBox ((((w.setCell ⟨H, 0, none⟩ (.int .i64 a')).setCell ⟨H, 1, none⟩ (.int .i64 b')).setCell ⟨H, 2, none⟩ (.int .i64 c')).setCell ⟨H, 3, none⟩ (.int .i64 d')) H a' b' c' d' := by
  obtain ⟨⟨s0, s1, s2, s3⟩, f0, f1, f2, f3⟩ := x
  refine ⟨⟨?_, ?_, ?_, ?_⟩, ?_, ?_, ?_, ?_⟩ <;> go_simp
theorem sbox_set3 {w : World} {H : Nat} {a b c d : Int} (x : SBox w H a b c d) (a' b' d' : Int) :
    SBox (((w.setCell ⟨H, 0, none⟩ (.int .i64 a')).setCell ⟨H, 1, none⟩ (.int .i64 b')).setCell ⟨H, 3, none⟩ (.int .i64 d')) H a' b' c d' := by
  obtain ⟨⟨s0, s1, s2, s3⟩, f0, f1, f2, f3⟩ := x
  refine ⟨⟨?_, ?_, ?_, ?_⟩, ?_, ?_, ?_, ?_⟩ <;> go_simp
theorem new3 {w wr : World} {bc H : Nat} {a : Option Addr} {n cap : Nat} (hc : CurOk wr bc a n cap) (hg : w.grownBy wr (some bc)) (hH : w.heap.size ≤ H) (hlt : bc < w.heap.size) (hcode : 0 < n → ∀ x, a = some x → x.block < w.heap.size) (v0 v1 v3 : Value) :
    CurOk (((wr.setCell ⟨H, 0, none⟩ v0).setCell ⟨H, 1, none⟩ v1).setCell ⟨H, 3, none⟩ v3) bc a n cap ∧ w.grownBy (((wr.setCell ⟨H, 0, none⟩ v0).setCell ⟨H, 1, none⟩ v1).setCell ⟨H, 3, none⟩ v3) (some bc) := by
  have G3 := grown_set (grown_set (grown_setCell wr H 0 v0) 1 v1) 3 v3
  exact ⟨hc.kept_new G3 (B := w.heap.size) (fun k hk => by cases hk; exact hH) hlt hcode, grown_new hg G3 (fun k hk => by cases hk; exact hH)⟩
/-- A row of its own is written. -/
theorem Drn.setF {w W : World} {bc : Nat} {a : Option Addr} {n cap gr gp gf bp m fc : Nat} {rs : List Cd} {ps fs : List Int} (h : Drn w bc a n cap W gr gp gf bp m fc rs ps fs) (hlt : bc < w.heap.size) (hcode : 0 < n → ∀ x, a = some x → x.block < w.heap.size) (i : Nat) (v : Int) :
    Drn w bc a n cap (W.setCell ⟨gf, i, none⟩ (.int .i64 v)) gr gp gf bp m fc rs ps (fs.set i v) := by
  have k1 := h.rows.ltG
  have k2 := h.ps.ltG
  have k3 := h.fs.ltG
  have k4 := h.ne
  have hg := grownP_setCell W gf i (.int .i64 v)
  have hn := new1 (H := gf) h.cur h.grown (by omega) hlt hcode i (.int .i64 v)
  have hO : W.ownsRow (w.heap.size + 1) 3 1 (.slice (some ⟨gf, 0, none⟩) m fc) m (ints fs) := by
    have := h.fs.1
    unfold InRow at this
    rw [h.fs.2] at this
    exact this
  refine ⟨hn.1, hn.2, fp_grown h.res hg (by simp; omega), h.rows.keptG hg (by simp; omega), h.ps.keptG hg (by simp; omega), ⟨?_, by rw [List.length_set]; exact h.fs.2⟩, h.box.grown hg (by simp; omega), (World.grownBy.frozen_far hg ⟨bp, 1, none⟩ h.bplt (by simp; omega)).trans h.fz, h.ne⟩
  have := (World.ownsRow.stored hO i (.int .i64 v)).1
  rw [ints_set] at this
  unfold InRow
  rw [List.length_set, h.fs.2]
  exact this
theorem Drn.setP {w W : World} {bc : Nat} {a : Option Addr} {n cap gr gp gf bp m fc : Nat} {rs : List Cd} {ps fs : List Int} (h : Drn w bc a n cap W gr gp gf bp m fc rs ps fs) (hlt : bc < w.heap.size) (hcode : 0 < n → ∀ x, a = some x → x.block < w.heap.size) (i : Nat) (v : Int) :
    Drn w bc a n cap (W.setCell ⟨gp, i, none⟩ (.int .i64 v)) gr gp gf bp m fc rs (ps.set i v) fs := by
  have k1 := h.rows.ltG
  have k2 := h.ps.ltG
  have k3 := h.fs.ltG
  have k4 := h.ne
  have hg := grownP_setCell W gp i (.int .i64 v)
  have hn := new1 (H := gp) h.cur h.grown (by omega) hlt hcode i (.int .i64 v)
  have hO : W.ownsRow (w.heap.size + 1) 3 1 (.slice (some ⟨gp, 0, none⟩) 2 2) 2 (ints ps) := by
    have := h.ps.1
    unfold InRow at this
    rw [h.ps.2] at this
    exact this
  refine ⟨hn.1, hn.2, fp_grown h.res hg (by simp; omega), h.rows.keptG hg (by simp; omega), ⟨?_, by rw [List.length_set]; exact h.ps.2⟩, h.fs.keptG hg (by simp; omega), h.box.grown hg (by simp; omega), (World.grownBy.frozen_far hg ⟨bp, 1, none⟩ h.bplt (by simp; omega)).trans h.fz, h.ne⟩
  have := (World.ownsRow.stored hO i (.int .i64 v)).1
  rw [ints_set] at this
  unfold InRow
  rw [List.length_set, h.ps.2]
  exact this
theorem Drn.setR {w W : World} {bc : Nat} {a : Option Addr} {n cap gr gp gf bp m fc : Nat} {rs : List Cd} {ps fs : List Int} (h : Drn w bc a n cap W gr gp gf bp m fc rs ps fs) (hlt : bc < w.heap.size) (hcode : 0 < n → ∀ x, a = some x → x.block < w.heap.size) (x y z u : Int) :
    ∃ rs', Drn w bc a n cap ((((W.setCell ⟨gr, 0, none⟩ (.int .i64 x)).setCell ⟨gr, 1, none⟩ (.int .i64 y)).setCell ⟨gr, 2, none⟩ (.int .i64 z)).setCell ⟨gr, 3, none⟩ (.int .i64 u)) gr gp gf bp m fc rs' ps fs := by
  have k1 := h.rows.ltG
  have k2 := h.ps.ltG
  have k3 := h.fs.ltG
  have k4 := h.ne
  have hg : W.grownBy ((((W.setCell ⟨gr, 0, none⟩ (.int .i64 x)).setCell ⟨gr, 1, none⟩ (.int .i64 y)).setCell ⟨gr, 2, none⟩ (.int .i64 z)).setCell ⟨gr, 3, none⟩ (.int .i64 u)) (some gr) := grown_set (grown_set (grown_set (grown_setCell W gr 0 _) 1 _) 2 _) 3 _
  have hn := new4 (H := gr) h.cur h.grown (by omega) hlt hcode (.int .i64 x) (.int .i64 y) (.int .i64 z) (.int .i64 u)
  have hl := h.rows.2
  match rs, hl, h.rows with
  | [r0, r1, r2], _, hrows =>
    have s1 := (World.ownsRow.stored (World.ownsRow.stored (World.ownsRow.stored (World.ownsRow.stored hrows.1 0 (.int .i64 x)).1 1 (.int .i64 y)).1 2 (.int .i64 z)).1 3 (.int .i64 u)).1
    exact ⟨[(x, y, z, u), r1, r2], hn.1, hn.2, fp_grown h.res hg (by simp; omega), ⟨s1, rfl⟩, h.ps.keptG hg (by simp; omega), h.fs.keptG hg (by simp; omega), h.box.grown hg (by simp; omega), (World.grownBy.frozen_far hg ⟨bp, 1, none⟩ h.bplt (by simp; omega)).trans h.fz, h.ne⟩
/-- The result is written. -/
theorem Drn.fin {w W : World} {bc : Nat} {a : Option Addr} {n cap gr gp gf bp m fc : Nat} {rs : List Cd} {ps fs : List Int} (h : Drn w bc a n cap W gr gp gf bp m fc rs ps fs) (v0 v1 : Value) :
    let W' := (W.setCell ⟨w.heap.size, 0, none⟩ v0).setCell ⟨w.heap.size, 1, none⟩ v1
    Cds W' w.heap.size (some ⟨gr, 0, none⟩) 3 3 rs ∧ Ins W' w.heap.size (some ⟨gp, 0, none⟩) 2 2 ps ∧ Ins W' w.heap.size (some ⟨gf, 0, none⟩) m fc fs ∧ w.grownBy W' (some bc) := by
  have k1 := h.rows.ltG
  have k2 := h.ps.ltG
  have k3 := h.fs.ltG
  have hg : W.grownBy ((W.setCell ⟨w.heap.size, 0, none⟩ v0).setCell ⟨w.heap.size, 1, none⟩ v1) (some w.heap.size) := grown_set (grown_setCell W w.heap.size 0 v0) 1 v1
  exact ⟨(h.rows.keptG hg (by simp; omega)).base (by omega), (h.ps.keptG hg (by simp; omega)).base (by omega), (h.fs.keptG hg (by simp; omega)).base (by omega), grown_new h.grown hg (fun k hk => by cases hk; exact Nat.le_refl _)⟩
/-- What the draw handed back. -/
def DrawnPair (bc : Nat) (w : World) (e : Ending) (w' : World) : Prop :=
  ∃ (gr gp gf m fc : Nat) (rs : List Cd) (ps fs : List Int), e = .returned (.tuple #[.slice (some ⟨gr, 0, none⟩) 3 3, .agg #[.slice (some ⟨gp, 0, none⟩) 2 2, .slice (some ⟨gf, 0, none⟩) m fc]]) ∧ Cds w' w.heap.size (some ⟨gr, 0, none⟩) 3 3 rs ∧ Ins w' w.heap.size (some ⟨gp, 0, none⟩) 2 2 ps ∧ Ins w' w.heap.size (some ⟨gf, 0, none⟩) m fc fs ∧ w.grownBy w' (some bc)

set_option maxHeartbeats 16000000 in
set_option maxRecDepth 100000 in
theorem pair_any (w : World) (bc : Nat) (a : Option Addr) (n cap : Nat) (hc : CurOk w bc a n cap) :
    Calls Tryd.prog 13 #[.pointer (some ⟨bc, 0, none⟩)] w (DrawnPair bc w) := by
  have hlt := hc.lt
  have hcode := hc.code_lt
  have HLT := Lib.hid hlt
  have HCODE := Lib.hid hcode
  have HF0 : RowKit.Hid (FreshP w.heap.size (w.alloc (.cells #[.slice none 0 0, .slice none 0 0] 27))) := Lib.hid (by refine ⟨?_, ?_, ?_, ?_, ?_⟩ <;> first | (go_simp; done) | simp)
  have hc0 := hc.alloc (.cells #[.slice none 0 0, .slice none 0 0] 27)
  have HG0 := Lib.hid (World.grownBy_alloc w (.cells #[.slice none 0 0, .slice none 0 0] 27) (some bc))
  clear hc hcode
  go_enter Tryd.func13, Tryd.ntmps13
  go_wp2_with fail
  refine (row_any _ _ _ _ _ hc0).mono ?_
  rintro e w1 ⟨x, y, z, u, -, rfl, hc1, hg1⟩
  have hf1 := fp_grown HF0.out hg1 (by simp; omega)
  have hg1' := grown_trans HG0.out hg1
  have hw1 : w.heap.size < w1.heap.size := hf1.2.2.2.2
  have HG1 := Lib.hid (grown_trans hg1' (World.grownBy_alloc w1 (.cells #[.int .i64 x, .int .i64 y, .int .i64 z, .int .i64 u] 41) (some bc)))
  have hc2 := hc1.alloc (.cells #[.int .i64 x, .int .i64 y, .int .i64 z, .int .i64 u] 41)
  have HF1 := Lib.hid (fp_keep (Lib.hid hf1) (alloc_b w1 (.cells #[.int .i64 x, .int .i64 y, .int .i64 z, .int .i64 u] 41)))
  have HR1 := Lib.hid (sbox_new w1 x y z u 41)
  clear hc0 hc1 hg1 hg1' hf1 HF0 HG0
  go_wp2_with fail
  refine (below_any _ _ _ _ _ _ (by omega) hc2).mono ?_
  rintro e w2 ⟨q, ⟨hq0, hq1, -⟩, rfl, hc3, hg3⟩
  have hq2 := hq1 (by omega)
  have hf3 := fp_grown HF1.out hg3 (by simp; omega)
  obtain ⟨b, hb⟩ : ∃ b, b = w1.heap.size := ⟨_, rfl⟩
  rw [← hb] at HR1 hw1 ⊢
  have HR2 := Lib.hid (HR1.out.grown hg3 (by simp; omega))
  have HG2 := Lib.hid (grown_trans HG1.out hg3)
  have HF2 := Lib.hid hf3
  have HC2 := Lib.hid hc3
  clear hc2 hg3 hq1 HF1 HR1 HG1 hb hc3 hf3
  have hfw : IntKind.i64.wrap (1 + q) = 1 + q := IntWalk.i64_in _ (by omega)
  obtain ⟨f, hf⟩ : ∃ f, f = 1 + q := ⟨_, rfl⟩
  rw [← hf] at hfw
  have hfr : 1 ≤ f ∧ f ≤ 3 := by omega
  obtain ⟨hf1, hf3⟩ := hfr
  have hbl := HR2.out.lt
  obtain ⟨⟨r0, r1, r2, r3⟩, f0, f1, f2, f3⟩ := id HR2.out
  have hbcw : bc < w2.heap.size := by omega
  have HCW := Lib.hid (show 0 < n → ∀ x, a = some x → x.block < w2.heap.size from fun h x hx => by have := HCODE.out h x hx; omega)
  go_upto_region 3 with fail
  rw [← hf]
  clear hf hq0 hq2
  rename World => w2
  have m1 : b ≠ w2.heap.size := by omega
  have m2 := Ne.symm m1
  go_cut [6] from 14 to 36 (fun p wx => ∃ (bs : Nat) (xs ys zs us : Int), p = .pointer (some ⟨bs, 0, none⟩) ∧ w2.heap.size ≤ bs ∧ SBox wx bs xs ys zs us ∧ CurOk wx bc a n cap ∧ w2.grownBy wx (some bc))
  case first =>
    go_region_held3 (fun w' => w'.cell? ⟨b, 0, none⟩ = some (.int .i64 x) ∧ w'.cell? ⟨b, 1, none⟩ = some (.int .i64 y) ∧ w'.cell? ⟨b, 2, none⟩ = some (.int .i64 z) ∧ w'.cell? ⟨b, 3, none⟩ = some (.int .i64 u))
      (first | (refine ⟨?_, ?_, ?_, ?_⟩ <;> exact tcell_sf (by assumption) (by assumption)) | go_keep | trivial)
      (first
        | (go_at_call 26; refine (below_any _ _ _ _ _ _ (by omega) (by first | exact HC2.out | exact HC2.out.drewN _ | exact HC2.out.alloc _ | exact (HC2.out.drewN _).alloc _)).mono ?_; rintro e y1 ⟨v, ⟨hv0, hv1, -⟩, rfl, hcy, hgy⟩; (first | (have zz := sb_al hgy hbcw) | (have zz := sb_dal hgy hbcw) | skip); have hgz : w2.grownBy y1 (some bc) := (by first | exact hgy | exact gst_drew hgy | exact gst_al hgy | exact gst_dal hgy); have HCY := Lib.hid hcy; have HGY := Lib.hid hgz; have HRY := Lib.hid (HR2.out.grown hgz (by simp; omega)); clear hcy hgy hgz hv0 hv1; have r0 := HRY.out.1.1; have r1 := HRY.out.1.2.1; have r2 := HRY.out.1.2.2.1; have r3 := HRY.out.1.2.2.2; have sz := HGY.out.size; have m3 : b ≠ y1.heap.size := (by omega); have m4 := Ne.symm m3; (try (have HZ := Lib.hid zz; obtain ⟨⟨z0, z1, z2, z3⟩, z4, z5, z6, z7⟩ := zz))))
    all_goals
      go_wp2_with fail
      go_meet
    all_goals first
      | exact ⟨_, _, _, _, _, rfl, HGY.out.size, sbox_new _ _ _ _ _ _, HCY.out.alloc _, grown_trans HGY.out (World.grownBy_alloc _ _ _)⟩
      | exact ⟨_, _, _, _, _, rfl, Nat.le_refl _, sbox_set4 HZ.out _ _ _ _, (new4 HCY.out HGY.out (Nat.le_refl _) hbcw HCW.out _ _ _ _).1, (new4 HCY.out HGY.out (Nat.le_refl _) hbcw HCW.out _ _ _ _).2⟩
  case rest =>
    obtain ⟨bs, xs, ys, zs, us, rfl, hbs, hsb, hcx, hgx⟩ := hcut
    have HS3 := Lib.hid hsb
    have HR3 := Lib.hid (HR2.out.grown hgx (by simp; omega))
    have HF3 := Lib.hid (fp_grown HF2.out hgx (by simp; omega))
    have HG3 := Lib.hid (grown_trans HG2.out hgx)
    have HC3 := Lib.hid hcx
    have hsl := hsb.lt
    have hne1 : b ≠ bs := by omega
    have hne2 := Ne.symm hne1
    have hHs : w.heap.size < bs := by omega
    clear hsb hcx hgx HR2 HF2 HG2 HC2 r0 r1 r2 r3 f0 f1 f2 f3 HCW m1 m2
    obtain ⟨⟨s0, s1, s2, s3⟩, t0, t1, t2, t3⟩ := id HS3.out
    obtain ⟨⟨r0, r1, r2, r3⟩, f0, f1, f2, f3⟩ := id HR3.out
    rename World => w3
    have hsel : (1 < f ∧ ¬ z = 0) ∨ (1 < f ∧ z = 0) ∨ ¬ 1 < f := by omega
    rcases hsel with ⟨h1, h2⟩ | ⟨h1, h2⟩ | h1
    · have h1' : decide (1 < f) = true := decide_eq_true h1
      clear h1
      have h2' : (z != 0) = true := by simpa using h2
      clear h2
      have hset := grown_set (grown_set (grown_setCell w3 bs 0 (.int .i64 (wrap64 (-x)))) 1 (.int .i64 (wrap64 (-y)))) 3 (.int .i64 (wrap64 (wrap64 (-u) - 1)))
      have HS4 := Lib.hid (sbox_set3 HS3.out (wrap64 (-x)) (wrap64 (-y)) (wrap64 (wrap64 (-u) - 1)))
      have HR4 := Lib.hid (HR3.out.grown hset (by simp; omega))
      have HF4 := Lib.hid (fp_grown HF3.out hset (by simp; omega))
      have hn3 := new3 (H := bs) HC3.out HG3.out (Nat.le_of_lt hHs) HLT.out HCODE.out (.int .i64 (wrap64 (-x))) (.int .i64 (wrap64 (-y))) (.int .i64 (wrap64 (wrap64 (-u) - 1)))
      have HG4 := Lib.hid hn3.2
      have HC4 := Lib.hid hn3.1
      clear hset hn3
      go_upto_region 9 with fail
      generalize hW : ((w3.setCell ⟨bs, 0, none⟩ (.int .i64 (wrap64 (-x)))).setCell ⟨bs, 1, none⟩ (.int .i64 (wrap64 (-y)))).setCell ⟨bs, 3, none⟩ (.int .i64 (wrap64 (wrap64 (-u) - 1))) = W at *
      clear hW
      have m1 : b ≠ W.heap.size := by have := HR4.out.lt; omega
      have m2 := Ne.symm m1
      have m3 : bs ≠ W.heap.size := by have := HS4.out.lt; omega
      have m4 := Ne.symm m3
      have hWs : w.heap.size < W.heap.size := by have := HR4.out.lt; omega
      clear s0 s1 s2 s3 t0 t1 t2 t3 r0 r1 r2 r3 f0 f1 f2 f3
      obtain ⟨⟨s0, s1, s2, s3⟩, t0, t1, t2, t3⟩ := id HS4.out
      obtain ⟨⟨r0, r1, r2, r3⟩, f0, f1, f2, f3⟩ := id HR4.out
      go_cut [7] from 57 to 61 (fun p wx => ∃ (gr : Nat) (rs : List Cd), p = .slice (some ⟨gr, 0, none⟩) 3 3 ∧ Cds wx W.heap.size (some ⟨gr, 0, none⟩) 3 3 rs ∧ CurOk wx bc a n cap ∧ W.grownBy wx (some bc))
      case first =>
        go_region_held3 (fun w' => w'.cell? ⟨b, 0, none⟩ = some (.int .i64 x) ∧ w'.cell? ⟨b, 1, none⟩ = some (.int .i64 y) ∧ w'.cell? ⟨b, 2, none⟩ = some (.int .i64 z) ∧ w'.cell? ⟨b, 3, none⟩ = some (.int .i64 u) ∧ w'.cell? ⟨bs, 0, none⟩ = some (.int .i64 (wrap64 (-x))) ∧ w'.cell? ⟨bs, 1, none⟩ = some (.int .i64 (wrap64 (-y))) ∧ w'.cell? ⟨bs, 2, none⟩ = some (.int .i64 zs) ∧ w'.cell? ⟨bs, 3, none⟩ = some (.int .i64 (wrap64 (wrap64 (-u) - 1))))
          (first | go_keep | trivial)
          (first
            | (go_at_call 25; refine (row_any _ _ _ _ _ (by first | exact HC4.out | exact HC4.out.drewN _)).mono ?_; rintro e y1 ⟨x1, y1', z1', u1, -, rfl, hcy, hgy⟩; have hgz : W.grownBy y1 (some bc) := (by first | exact hgy | exact gst_drew hgy); have HCY := Lib.hid hcy; have HGY := Lib.hid hgz; have HRY := Lib.hid (HR4.out.grown hgz (by simp; omega)); have HSY := Lib.hid (HS4.out.grown hgz (by simp; omega)); clear hcy hgy hgz; have r0 := HRY.out.1.1; have r1 := HRY.out.1.2.1; have r2 := HRY.out.1.2.2.1; have r3 := HRY.out.1.2.2.2; have s0 := HSY.out.1.1; have s1 := HSY.out.1.2.1; have s2 := HSY.out.1.2.2.1; have s3 := HSY.out.1.2.2.2))
        all_goals
          go_wp2_with fail
          go_meet
          exact ⟨_, _, rfl, cds_lit3 _ _ HGY.out.size _ _ _ _ _ _ _ _ _ _ _ _, HCY.out.alloc _, grown_trans HGY.out (World.grownBy_alloc _ _ _)⟩
      case rest =>
        obtain ⟨gr, rs, rfl, hrows, hcx, hgx⟩ := hcut
        have HF5 := Lib.hid (fp_grown HF4.out hgx (by simp; omega))
        have HG5 := Lib.hid (grown_trans HG4.out hgx)
        have HC5 := Lib.hid hcx
        have HRW := Lib.hid (hrows.base (B' := w.heap.size + 1) (by omega))
        have hgrl := hrows.ltG
        clear hrows hcx hgx HR4 HF4 HG4 HC4 HS4 r0 r1 r2 r3 f0 f1 f2 f3 s0 s1 s2 s3 t0 t1 t2 t3 m1 m2 m3 m4
        rename World => w5
        have hw5 : w.heap.size < w5.heap.size := HF5.out.2.2.2.2
        go_upto_region 11 with fail
        have HD : RowKit.Hid (Drn w bc a n cap (((w5.alloc (.cells #[.int .i64 1, .int .i64 2] 3)).alloc (.cells #[.int .i64 1, .int .i64 1] 3)).alloc (.cells #[.slice (some ⟨w5.heap.size, 0, none⟩) 2 2, .slice (some ⟨w5.heap.size + 1, 0, none⟩) 2 2] 27)) gr w5.heap.size (w5.heap.size + 1) (w5.heap.size + 1 + 1) 2 2 rs [1, 2] [1, 1]) := Lib.hid (by
          have b1 := alloc_b w5 (.cells #[.int .i64 1, .int .i64 2] 3)
          have b2 := alloc_b (w5.alloc (.cells #[.int .i64 1, .int .i64 2] 3)) (.cells #[.int .i64 1, .int .i64 1] 3)
          have b3 := alloc_b ((w5.alloc (.cells #[.int .i64 1, .int .i64 2] 3)).alloc (.cells #[.int .i64 1, .int .i64 1] 3)) (.cells #[.slice (some ⟨w5.heap.size, 0, none⟩) 2 2, .slice (some ⟨w5.heap.size + 1, 0, none⟩) 2 2] 27)
          have i1 := ins_lit2 w5 (w.heap.size + 1) (by omega) 1 2
          have i2 := ins_lit2 (w5.alloc (.cells #[.int .i64 1, .int .i64 2] 3)) (w.heap.size + 1) (by simp; omega) 1 1
          rw [World.size_alloc] at i2
          refine ⟨((HC5.out.alloc _).alloc _).alloc _, grown_trans (grown_trans (grown_trans HG5.out (World.grownBy_alloc _ _ _)) (World.grownBy_alloc _ _ _)) (World.grownBy_alloc _ _ _), fp_keep (Lib.hid (fp_keep (Lib.hid (fp_keep HF5 b1)) b2)) b3, ((HRW.out.below b1).below b2).below b3, (i1.below b2).below b3, i2.below b3, ?_, ?_, ?_⟩
          · refine ⟨?_, ?_⟩ <;> go_simp
          · go_simp
          · omega)
        generalize hW5 : ((w5.alloc (.cells #[.int .i64 1, .int .i64 2] 3)).alloc (.cells #[.int .i64 1, .int .i64 1] 3)).alloc (.cells #[.slice (some ⟨w5.heap.size, 0, none⟩) 2 2, .slice (some ⟨w5.heap.size + 1, 0, none⟩) 2 2] 27) = W6 at *
        generalize w5.heap.size + 1 + 1 = bp at *
        generalize w5.heap.size + 1 = gf at *
        generalize w5.heap.size = gp at *
        clear hW5 HF5 HG5 HC5 HRW hw5 hgrl
        go_wp2_with fail
        refine (below_any _ _ _ _ _ _ (by omega) HD.out.cur).mono ?_
        rintro e w7 ⟨k, ⟨hk0, hk1, -⟩, rfl, hc7, hg7⟩
        have HD7 := Lib.hid (HD.out.step HLT.out hg7 hc7)
        clear hk0 hk1 hc7 hg7 HD
        obtain ⟨p0, p1⟩ := id HD7.out.box
        have pz := HD7.out.fz
        have hne := HD7.out.ne
        have hgr := HD7.out.rows.ltG
        have hgp := HD7.out.ps.ltG
        have hgf := HD7.out.fs.ltG
        have hbp := HD7.out.bplt
        by_cases e0 : k = 0
        · subst e0
          go_upto_region 13 with fail
          obtain ⟨g', hg', -, c0⟩ := HD7.out.fs.at 0 (by omega)
          simp only [Option.some.injEq, Addr.mk.injEq, and_true] at hg'
          subst hg'
          have cz := World.ownsRow.frozenAt HD7.out.fs.1 0
          obtain ⟨qv, hqv⟩ : ∃ qv : Int, w7.cell? ⟨gf, 0, none⟩ = some (.int .i64 qv) := ⟨_, c0⟩
          clear c0
          have m5 : bp ≠ gf := by omega
          have m6 := Ne.symm m5
          have m7 : bp ≠ w7.heap.size := by omega
          have m8 := Ne.symm m7
          have m9 : gf ≠ w7.heap.size := by omega
          have m10 := Ne.symm m9
          have hbw7 : w7.heap.size ≠ bc := by omega
          clear p0 p1 pz
          obtain ⟨p0, p1⟩ := id HD7.out.box
          go_region_held3 (fun w' => w'.cell? ⟨bp, 1, none⟩ = some (.slice (some ⟨gf, 0, none⟩) 2 2))
            (first | go_keep | trivial)
            (first
              | (go_at_call 27; refine (pickInt_any _ bc a n cap w7.heap.size 4 4 (by omega) (by omega) hbw7 (by first | exact ints_at4 w7 _ _ _ _ (i64_lit (by omega)) (i64_lit (by omega)) (i64_lit (by omega)) (i64_lit (by omega)) _ | exact ints_at4 (w7.drewN _) _ _ _ _ (i64_lit (by omega)) (i64_lit (by omega)) (i64_lit (by omega)) (i64_lit (by omega)) _) (by first | exact HD7.out.cur.alloc _ | exact (HD7.out.cur.drewN _).alloc _)).mono ?_; rintro e y1 ⟨v, -, rfl, hcy, hgy⟩; have hgz : w7.grownBy y1 (some bc) := (by first | exact gst_al hgy | exact gst_dal hgy); have HDY := Lib.hid (HD7.out.step HLT.out hgz hcy); have hqv := hgz.cell hqv (by have := HLT.out; simp; omega); have cz : y1.frozen? ⟨gf, 0, none⟩ = false := World.ownsRow.frozenAt HDY.out.fs.1 0; clear hcy hgy hgz; obtain ⟨p0, p1⟩ := id HDY.out.box))
          all_goals
            have HE := Lib.hid (HDY.out.setF HLT.out HCODE.out 0 v)
            clear hqv cz p0 p1
            obtain ⟨p0, p1⟩ := id HE.out.box
            obtain ⟨z0, z1, z2, z3, z4⟩ := id HE.out.res
            have hbp := HE.out.bplt
            have hne := HE.out.ne
            have m1 : bp ≠ w.heap.size := by omega
            have m2 := Ne.symm m1
            go_wp2_with fail
            go_region
            all_goals
              go_wp2_with fail
              refine bodyPost_ret (v := .tuple #[.slice (some ⟨gr, 0, none⟩) 3 3, .agg #[.slice (some ⟨gp, 0, none⟩) 2 2, .slice (some ⟨gf, 0, none⟩) 2 2]]) (by simp [results, Tryd.results13, go_sem, z0, z1]) rfl ⟨gr, gp, gf, 2, 2, _, _, _, rfl, (HE.out.fin _ _).1, (HE.out.fin _ _).2.1, (HE.out.fin _ _).2.2.1, (by first | exact (HE.out.fin _ _).2.2.2 | exact grown_drew (HE.out.fin _ _).2.2.2)⟩
        by_cases e1 : k = 1
        · subst e1
          go_upto_region 15 with fail
          obtain ⟨g', hg', -, c0⟩ := HD7.out.ps.at 1 (by omega)
          simp only [Option.some.injEq, Addr.mk.injEq, and_true] at hg'
          subst hg'
          have cz := World.ownsRow.frozenAt HD7.out.ps.1 1
          obtain ⟨qv, hqv⟩ : ∃ qv : Int, w7.cell? ⟨gp, 1, none⟩ = some (.int .i64 qv) := ⟨_, c0⟩
          clear c0
          have m5 : bp ≠ gp := by omega
          have m6 := Ne.symm m5
          have m7 : bp ≠ w7.heap.size := by omega
          have m8 := Ne.symm m7
          have m9 : gp ≠ w7.heap.size := by omega
          have m10 := Ne.symm m9
          have hbw7 : w7.heap.size ≠ bc := by omega
          clear p0 p1 pz
          obtain ⟨p0, p1⟩ := id HD7.out.box
          go_region_held3 (fun w' => w'.cell? ⟨bp, 0, none⟩ = some (.slice (some ⟨gp, 0, none⟩) 2 2))
            (first | go_keep | trivial)
            (first
              | (go_at_call 27; refine (pickInt_any _ bc a n cap w7.heap.size 4 4 (by omega) (by omega) hbw7 (by first | exact ints_at4 w7 _ _ _ _ (i64_lit (by omega)) (i64_lit (by omega)) (i64_lit (by omega)) (i64_lit (by omega)) _ | exact ints_at4 (w7.drewN _) _ _ _ _ (i64_lit (by omega)) (i64_lit (by omega)) (i64_lit (by omega)) (i64_lit (by omega)) _) (by first | exact HD7.out.cur.alloc _ | exact (HD7.out.cur.drewN _).alloc _)).mono ?_; rintro e y1 ⟨v, -, rfl, hcy, hgy⟩; have hgz : w7.grownBy y1 (some bc) := (by first | exact gst_al hgy | exact gst_dal hgy); have HDY := Lib.hid (HD7.out.step HLT.out hgz hcy); have hqv := hgz.cell hqv (by have := HLT.out; simp; omega); have cz : y1.frozen? ⟨gp, 1, none⟩ = false := World.ownsRow.frozenAt HDY.out.ps.1 1; clear hcy hgy hgz; obtain ⟨p0, p1⟩ := id HDY.out.box))
          all_goals
            have HE := Lib.hid (HDY.out.setP HLT.out HCODE.out 1 v)
            clear hqv cz p0 p1
            obtain ⟨p0, p1⟩ := id HE.out.box
            obtain ⟨z0, z1, z2, z3, z4⟩ := id HE.out.res
            have hbp := HE.out.bplt
            have hne := HE.out.ne
            have m1 : bp ≠ w.heap.size := by omega
            have m2 := Ne.symm m1
            go_wp2_with fail
            go_region
            all_goals
              go_wp2_with fail
              refine bodyPost_ret (v := .tuple #[.slice (some ⟨gr, 0, none⟩) 3 3, .agg #[.slice (some ⟨gp, 0, none⟩) 2 2, .slice (some ⟨gf, 0, none⟩) 2 2]]) (by simp [results, Tryd.results13, go_sem, z0, z1]) rfl ⟨gr, gp, gf, 2, 2, _, _, _, rfl, (HE.out.fin _ _).1, (HE.out.fin _ _).2.1, (HE.out.fin _ _).2.2.1, (by first | exact (HE.out.fin _ _).2.2.2 | exact grown_drew (HE.out.fin _ _).2.2.2)⟩
        have n0 : (k == 0) = false := by simpa using e0
        have n1 : (k == 1) = false := by simpa using e1
        by_cases e2 : k = 2
        · subst e2
          clear n0 n1
          go_wp2_with fail
          refine (four_any _ _ _ _ _ HD7.out.cur).mono ?_
          rintro e w8 ⟨x4, y4, z4, u4, rfl, hc8, hg8⟩
          have HD8 := Lib.hid (HD7.out.step HLT.out hg8 hc8)
          clear hc8 hg8 p0 p1 pz
          obtain ⟨g', hg', -, c0, c1, c2, c3⟩ := HD8.out.rows.at 0 (by omega)
          simp only [Option.some.injEq, Addr.mk.injEq, and_true] at hg'
          subst hg'
          rw [Nat.zero_mul] at c0 c1 c2 c3
          rw [Nat.zero_add] at c1 c2 c3
          have hO8 : w8.ownsRow (w.heap.size + 1) 41 4 (.slice (some ⟨gr, 0, none⟩) 3 3) 3 (flat4 rs) := by
            have := HD8.out.rows.1
            unfold CdRow at this
            rw [HD8.out.rows.2] at this
            exact this
          have d0 := World.ownsRow.frozenAt hO8 0
          have d1 := World.ownsRow.frozenAt hO8 1
          have d2 := World.ownsRow.frozenAt hO8 2
          have d3 := World.ownsRow.frozenAt hO8 3
          clear hO8
          generalize (cd rs 0).1 = o0 at *
          generalize (cd rs 0).2.1 = o1 at *
          generalize (cd rs 0).2.2.1 = o2 at *
          generalize (cd rs 0).2.2.2 = o3 at *
          obtain ⟨rs2, hE⟩ := HD8.out.setR HLT.out HCODE.out x4 y4 z4 u4
          have HE := Lib.hid hE
          clear hE
          go_upto_region 20 with fail
          clear c0 c1 c2 c3 d0 d1 d2 d3
          generalize hWW : (((w8.setCell ⟨gr, 0, none⟩ (.int .i64 x4)).setCell ⟨gr, 1, none⟩ (.int .i64 y4)).setCell ⟨gr, 2, none⟩ (.int .i64 z4)).setCell ⟨gr, 3, none⟩ (.int .i64 u4) = W8 at *
          clear hWW HD8
          obtain ⟨p0, p1⟩ := id HE.out.box
          obtain ⟨z0, z1, z2, z3, z4⟩ := id HE.out.res
          have hbp := HE.out.bplt
          have hne := HE.out.ne
          have m1 : bp ≠ w.heap.size := by omega
          have m2 := Ne.symm m1
          go_wp2_with fail
          go_region
          all_goals
            go_wp2_with fail
            refine bodyPost_ret (v := .tuple #[.slice (some ⟨gr, 0, none⟩) 3 3, .agg #[.slice (some ⟨gp, 0, none⟩) 2 2, .slice (some ⟨gf, 0, none⟩) 2 2]]) (by simp [results, Tryd.results13, go_sem, z0, z1]) rfl ⟨gr, gp, gf, 2, 2, _, _, _, rfl, (HE.out.fin _ _).1, (HE.out.fin _ _).2.1, (HE.out.fin _ _).2.2.1, (by first | exact (HE.out.fin _ _).2.2.2 | exact grown_drew (HE.out.fin _ _).2.2.2)⟩
        have n2 : (k == 2) = false := by simpa using e2
        by_cases e3 : k = 3
        · subst e3
          clear n0 n1 n2
          obtain ⟨i0, hi0, hz0, hz1, hz2⟩ := info_parts Tryd.infoI
          have hO : w7.ownsRow (w.heap.size + 1) 3 1 (.slice (some ⟨gf, 0, none⟩) 2 2) 2 (ints [1, 1]) := HD7.out.fs.1
          have HOO := Lib.hid hO
          have hA : ∀ (gg cp : Nat) (w8 : World), w8.ownsRow (w.heap.size + 1) 3 1 (.slice (some ⟨gg, 0, none⟩) (2 + 1) cp) (2 + 1) (ints [1, 1] ++ [.int .i64 1]) → (w7.alloc (.cells #[.int .i64 1] 3)).grownBy w8 (some gf) → (some gf = some gg ∨ gg = w7.heap.size + 1) → gg < w8.heap.size →
              (w8.cell? ⟨bp, 1, none⟩ = some (.slice (some ⟨gf, 0, none⟩) 2 2) ∧ w8.frozen? ⟨bp, 1, none⟩ = false) ∧ Drn w bc a n cap (w8.setCell ⟨bp, 1, none⟩ (.slice (some ⟨gg, 0, none⟩) (2 + 1) cp)) gr gp gg bp 3 cp rs [1, 2] [1, 1, 1] := by
            intro gg cp w8 ho hg hat hgl
            have hd := HD7.out.alloc HLT.out (.cells #[.int .i64 1] 3)
            have k1 := hd.rows.ltG
            have k2 := hd.ps.ltG
            have k4 := hd.ne
            have hbl := hd.bplt
            have hwz : (w7.alloc (.cells #[.int .i64 1] 3)).heap.size = w7.heap.size + 1 := by simp
            have hgg : gg ≠ gr ∧ gg ≠ gp ∧ gg ≠ bp := by
              rcases hat with h | h
              · have : gf = gg := by simpa using h
                omega
              · omega
            have hz := World.grownBy.frozen_far hg ⟨bp, 1, none⟩ hbl (by simp; omega)
            have hx := hd.box.grown hg (by simp; omega)
            have hg2 := grown_setCell w8 bp 1 (.slice (some ⟨gg, 0, none⟩) (2 + 1) cp)
            have hcur := hd.cur.kept_new hg (B := w.heap.size) (fun k hk => by cases hk; omega) HLT.out HCODE.out
            have hgrw := grown_new hd.grown hg (fun k hk => by cases hk; omega)
            have hn := new1 (H := bp) hcur hgrw (by omega) HLT.out HCODE.out 1 (.slice (some ⟨gg, 0, none⟩) (2 + 1) cp)
            refine ⟨⟨hx.2, hz.trans hd.fz⟩, hn.1, hn.2, fp_grown (fp_grown hd.res hg (by simp; omega)) hg2 (by simp; omega), (hd.rows.keptG hg (by simp; omega)).keptG hg2 (by simp; omega), (hd.ps.keptG hg (by simp; omega)).keptG hg2 (by simp; omega), Ins.keptG (show Ins w8 (w.heap.size + 1) (some ⟨gg, 0, none⟩) 3 cp [1, 1, 1] from ⟨ho, rfl⟩) hg2 (by simp; omega), ?_, ?_, ?_⟩
            · obtain ⟨x0, x1⟩ := hx
              have x2 := hz.trans hd.fz
              refine ⟨?_, ?_⟩ <;> go_simp
            · rw [World.frozen?_setCell]; exact hz.trans hd.fz
            · omega
          have HAA := Lib.hid hA
          clear hA hO
          go_wp2_with (at_builtin; refine wpList_append_lies _ rfl _ _ _ rfl (w.heap.size + 1) 3 i0 _ 1 8 Tryd.underlying25 hi0 hz0 hz1 hz2 rfl (by omega) (.slice (some ⟨gf, 0, none⟩) 2 2) 2 (ints [1, 1]) (by rfl) (World.ownsRow.alloc HOO.out _) ⟨w7.heap.size, 0, none⟩ 1 1 [.int .i64 1] (by rfl) (by rfl) (World.news_of_block (cs := #[.int .i64 1]) (t := 3) (fr := (0, 0)) (heapD_new w7 _)) (by simp [Value.oneCell']) (by omega) (by unfold maxLen; omega) (by omega) (by simp; omega) (w7.heap.size + 1) (by simp) ?_; intro gg cp w8 hown8 hgrow8 hat8 hgl8; have HH8 := Lib.hid (HAA.out gg cp w8 hown8 hgrow8 hat8 hgl8); clear hown8 hgrow8 hat8 hgl8 p0 p1 pz; obtain ⟨p1, pz⟩ := id HH8.out.1)
          have HE := Lib.hid HH8.out.2
          clear HH8 HAA HOO
          go_upto_region 20 with fail
          clear p1 pz
          obtain ⟨p0, p1⟩ := id HE.out.box
          obtain ⟨z0, z1, z2, z3, z4⟩ := id HE.out.res
          have hbp := HE.out.bplt
          have hne := HE.out.ne
          have m1 : bp ≠ w.heap.size := by omega
          have m2 := Ne.symm m1
          go_wp2_with fail
          go_region
          all_goals
            go_wp2_with fail
            refine bodyPost_ret (v := .tuple #[.slice (some ⟨gr, 0, none⟩) 3 3, .agg #[.slice (some ⟨gp, 0, none⟩) 2 2, .slice (some ⟨gg, 0, none⟩) 3 cp]]) (by simp [results, Tryd.results13, go_sem, z0, z1]) rfl ⟨gr, gp, gg, 3, cp, _, _, _, rfl, (HE.out.fin _ _).1, (HE.out.fin _ _).2.1, (HE.out.fin _ _).2.2.1, (by first | exact (HE.out.fin _ _).2.2.2 | exact grown_drew (HE.out.fin _ _).2.2.2)⟩
        have n3 : (k == 3) = false := by simpa using e3
        have HE := HD7
        clear p0 p1 pz
        go_upto_region 20 with fail
        obtain ⟨p0, p1⟩ := id HE.out.box
        obtain ⟨z0, z1, z2, z3, z4⟩ := id HE.out.res
        have hbp := HE.out.bplt
        have hne := HE.out.ne
        have m1 : bp ≠ w.heap.size := by omega
        have m2 := Ne.symm m1
        go_wp2_with fail
        go_region
        all_goals
          go_wp2_with fail
          refine bodyPost_ret (v := .tuple #[.slice (some ⟨gr, 0, none⟩) 3 3, .agg #[.slice (some ⟨gp, 0, none⟩) 2 2, .slice (some ⟨gf, 0, none⟩) 2 2]]) (by simp [results, Tryd.results13, go_sem, z0, z1]) rfl ⟨gr, gp, gf, 2, 2, _, _, _, rfl, (HE.out.fin _ _).1, (HE.out.fin _ _).2.1, (HE.out.fin _ _).2.2.1, (by first | exact (HE.out.fin _ _).2.2.2 | exact grown_drew (HE.out.fin _ _).2.2.2)⟩
    · have h1' : decide (1 < f) = true := decide_eq_true h1
      clear h1
      have h2' : (z != 0) = false := by simpa using h2
      clear h2
      have HR4 := HR3
      have HS4 := HS3
      have HF4 := HF3
      have HG4 := HG3
      have HC4 := HC3
      go_upto_region 9 with fail
      generalize hW : w3 = W at *
      clear hW
      have m1 : b ≠ W.heap.size := by have := HR4.out.lt; omega
      have m2 := Ne.symm m1
      have m3 : bs ≠ W.heap.size := by have := HS4.out.lt; omega
      have m4 := Ne.symm m3
      have hWs : w.heap.size < W.heap.size := by have := HR4.out.lt; omega
      clear s0 s1 s2 s3 t0 t1 t2 t3 r0 r1 r2 r3 f0 f1 f2 f3
      obtain ⟨⟨s0, s1, s2, s3⟩, t0, t1, t2, t3⟩ := id HS4.out
      obtain ⟨⟨r0, r1, r2, r3⟩, f0, f1, f2, f3⟩ := id HR4.out
      go_cut [7] from 57 to 61 (fun p wx => ∃ (gr : Nat) (rs : List Cd), p = .slice (some ⟨gr, 0, none⟩) 3 3 ∧ Cds wx W.heap.size (some ⟨gr, 0, none⟩) 3 3 rs ∧ CurOk wx bc a n cap ∧ W.grownBy wx (some bc))
      case first =>
        go_region_held3 (fun w' => w'.cell? ⟨b, 0, none⟩ = some (.int .i64 x) ∧ w'.cell? ⟨b, 1, none⟩ = some (.int .i64 y) ∧ w'.cell? ⟨b, 2, none⟩ = some (.int .i64 z) ∧ w'.cell? ⟨b, 3, none⟩ = some (.int .i64 u) ∧ w'.cell? ⟨bs, 0, none⟩ = some (.int .i64 xs) ∧ w'.cell? ⟨bs, 1, none⟩ = some (.int .i64 ys) ∧ w'.cell? ⟨bs, 2, none⟩ = some (.int .i64 zs) ∧ w'.cell? ⟨bs, 3, none⟩ = some (.int .i64 us))
          (first | go_keep | trivial)
          (first
            | (go_at_call 25; refine (row_any _ _ _ _ _ (by first | exact HC4.out | exact HC4.out.drewN _)).mono ?_; rintro e y1 ⟨x1, y1', z1', u1, -, rfl, hcy, hgy⟩; have hgz : W.grownBy y1 (some bc) := (by first | exact hgy | exact gst_drew hgy); have HCY := Lib.hid hcy; have HGY := Lib.hid hgz; have HRY := Lib.hid (HR4.out.grown hgz (by simp; omega)); have HSY := Lib.hid (HS4.out.grown hgz (by simp; omega)); clear hcy hgy hgz; have r0 := HRY.out.1.1; have r1 := HRY.out.1.2.1; have r2 := HRY.out.1.2.2.1; have r3 := HRY.out.1.2.2.2; have s0 := HSY.out.1.1; have s1 := HSY.out.1.2.1; have s2 := HSY.out.1.2.2.1; have s3 := HSY.out.1.2.2.2))
        all_goals
          go_wp2_with fail
          go_meet
          exact ⟨_, _, rfl, cds_lit3 _ _ HGY.out.size _ _ _ _ _ _ _ _ _ _ _ _, HCY.out.alloc _, grown_trans HGY.out (World.grownBy_alloc _ _ _)⟩
      case rest =>
        obtain ⟨gr, rs, rfl, hrows, hcx, hgx⟩ := hcut
        have HF5 := Lib.hid (fp_grown HF4.out hgx (by simp; omega))
        have HG5 := Lib.hid (grown_trans HG4.out hgx)
        have HC5 := Lib.hid hcx
        have HRW := Lib.hid (hrows.base (B' := w.heap.size + 1) (by omega))
        have hgrl := hrows.ltG
        clear hrows hcx hgx HR4 HF4 HG4 HC4 HS4 r0 r1 r2 r3 f0 f1 f2 f3 s0 s1 s2 s3 t0 t1 t2 t3 m1 m2 m3 m4
        rename World => w5
        have hw5 : w.heap.size < w5.heap.size := HF5.out.2.2.2.2
        go_upto_region 11 with fail
        have HD : RowKit.Hid (Drn w bc a n cap (((w5.alloc (.cells #[.int .i64 1, .int .i64 2] 3)).alloc (.cells #[.int .i64 f, .int .i64 1] 3)).alloc (.cells #[.slice (some ⟨w5.heap.size, 0, none⟩) 2 2, .slice (some ⟨w5.heap.size + 1, 0, none⟩) 2 2] 27)) gr w5.heap.size (w5.heap.size + 1) (w5.heap.size + 1 + 1) 2 2 rs [1, 2] [f, 1]) := Lib.hid (by
          have b1 := alloc_b w5 (.cells #[.int .i64 1, .int .i64 2] 3)
          have b2 := alloc_b (w5.alloc (.cells #[.int .i64 1, .int .i64 2] 3)) (.cells #[.int .i64 f, .int .i64 1] 3)
          have b3 := alloc_b ((w5.alloc (.cells #[.int .i64 1, .int .i64 2] 3)).alloc (.cells #[.int .i64 f, .int .i64 1] 3)) (.cells #[.slice (some ⟨w5.heap.size, 0, none⟩) 2 2, .slice (some ⟨w5.heap.size + 1, 0, none⟩) 2 2] 27)
          have i1 := ins_lit2 w5 (w.heap.size + 1) (by omega) 1 2
          have i2 := ins_lit2 (w5.alloc (.cells #[.int .i64 1, .int .i64 2] 3)) (w.heap.size + 1) (by simp; omega) f 1
          rw [World.size_alloc] at i2
          refine ⟨((HC5.out.alloc _).alloc _).alloc _, grown_trans (grown_trans (grown_trans HG5.out (World.grownBy_alloc _ _ _)) (World.grownBy_alloc _ _ _)) (World.grownBy_alloc _ _ _), fp_keep (Lib.hid (fp_keep (Lib.hid (fp_keep HF5 b1)) b2)) b3, ((HRW.out.below b1).below b2).below b3, (i1.below b2).below b3, i2.below b3, ?_, ?_, ?_⟩
          · refine ⟨?_, ?_⟩ <;> go_simp
          · go_simp
          · omega)
        generalize hW5 : ((w5.alloc (.cells #[.int .i64 1, .int .i64 2] 3)).alloc (.cells #[.int .i64 f, .int .i64 1] 3)).alloc (.cells #[.slice (some ⟨w5.heap.size, 0, none⟩) 2 2, .slice (some ⟨w5.heap.size + 1, 0, none⟩) 2 2] 27) = W6 at *
        generalize w5.heap.size + 1 + 1 = bp at *
        generalize w5.heap.size + 1 = gf at *
        generalize w5.heap.size = gp at *
        clear hW5 HF5 HG5 HC5 HRW hw5 hgrl
        go_wp2_with fail
        refine (below_any _ _ _ _ _ _ (by omega) HD.out.cur).mono ?_
        rintro e w7 ⟨k, ⟨hk0, hk1, -⟩, rfl, hc7, hg7⟩
        have HD7 := Lib.hid (HD.out.step HLT.out hg7 hc7)
        clear hk0 hk1 hc7 hg7 HD
        obtain ⟨p0, p1⟩ := id HD7.out.box
        have pz := HD7.out.fz
        have hne := HD7.out.ne
        have hgr := HD7.out.rows.ltG
        have hgp := HD7.out.ps.ltG
        have hgf := HD7.out.fs.ltG
        have hbp := HD7.out.bplt
        by_cases e0 : k = 0
        · subst e0
          go_upto_region 13 with fail
          obtain ⟨g', hg', -, c0⟩ := HD7.out.fs.at 0 (by omega)
          simp only [Option.some.injEq, Addr.mk.injEq, and_true] at hg'
          subst hg'
          have cz := World.ownsRow.frozenAt HD7.out.fs.1 0
          obtain ⟨qv, hqv⟩ : ∃ qv : Int, w7.cell? ⟨gf, 0, none⟩ = some (.int .i64 qv) := ⟨_, c0⟩
          clear c0
          have m5 : bp ≠ gf := by omega
          have m6 := Ne.symm m5
          have m7 : bp ≠ w7.heap.size := by omega
          have m8 := Ne.symm m7
          have m9 : gf ≠ w7.heap.size := by omega
          have m10 := Ne.symm m9
          have hbw7 : w7.heap.size ≠ bc := by omega
          clear p0 p1 pz
          obtain ⟨p0, p1⟩ := id HD7.out.box
          go_region_held3 (fun w' => w'.cell? ⟨bp, 1, none⟩ = some (.slice (some ⟨gf, 0, none⟩) 2 2))
            (first | go_keep | trivial)
            (first
              | (go_at_call 27; refine (pickInt_any _ bc a n cap w7.heap.size 4 4 (by omega) (by omega) hbw7 (by first | exact ints_at4 w7 _ _ _ _ (i64_lit (by omega)) (i64_lit (by omega)) (i64_lit (by omega)) (i64_lit (by omega)) _ | exact ints_at4 (w7.drewN _) _ _ _ _ (i64_lit (by omega)) (i64_lit (by omega)) (i64_lit (by omega)) (i64_lit (by omega)) _) (by first | exact HD7.out.cur.alloc _ | exact (HD7.out.cur.drewN _).alloc _)).mono ?_; rintro e y1 ⟨v, -, rfl, hcy, hgy⟩; have hgz : w7.grownBy y1 (some bc) := (by first | exact gst_al hgy | exact gst_dal hgy); have HDY := Lib.hid (HD7.out.step HLT.out hgz hcy); have hqv := hgz.cell hqv (by have := HLT.out; simp; omega); have cz : y1.frozen? ⟨gf, 0, none⟩ = false := World.ownsRow.frozenAt HDY.out.fs.1 0; clear hcy hgy hgz; obtain ⟨p0, p1⟩ := id HDY.out.box))
          all_goals
            have HE := Lib.hid (HDY.out.setF HLT.out HCODE.out 0 v)
            clear hqv cz p0 p1
            obtain ⟨p0, p1⟩ := id HE.out.box
            obtain ⟨z0, z1, z2, z3, z4⟩ := id HE.out.res
            have hbp := HE.out.bplt
            have hne := HE.out.ne
            have m1 : bp ≠ w.heap.size := by omega
            have m2 := Ne.symm m1
            go_wp2_with fail
            go_region
            all_goals
              go_wp2_with fail
              refine bodyPost_ret (v := .tuple #[.slice (some ⟨gr, 0, none⟩) 3 3, .agg #[.slice (some ⟨gp, 0, none⟩) 2 2, .slice (some ⟨gf, 0, none⟩) 2 2]]) (by simp [results, Tryd.results13, go_sem, z0, z1]) rfl ⟨gr, gp, gf, 2, 2, _, _, _, rfl, (HE.out.fin _ _).1, (HE.out.fin _ _).2.1, (HE.out.fin _ _).2.2.1, (by first | exact (HE.out.fin _ _).2.2.2 | exact grown_drew (HE.out.fin _ _).2.2.2)⟩
        by_cases e1 : k = 1
        · subst e1
          go_upto_region 15 with fail
          obtain ⟨g', hg', -, c0⟩ := HD7.out.ps.at 1 (by omega)
          simp only [Option.some.injEq, Addr.mk.injEq, and_true] at hg'
          subst hg'
          have cz := World.ownsRow.frozenAt HD7.out.ps.1 1
          obtain ⟨qv, hqv⟩ : ∃ qv : Int, w7.cell? ⟨gp, 1, none⟩ = some (.int .i64 qv) := ⟨_, c0⟩
          clear c0
          have m5 : bp ≠ gp := by omega
          have m6 := Ne.symm m5
          have m7 : bp ≠ w7.heap.size := by omega
          have m8 := Ne.symm m7
          have m9 : gp ≠ w7.heap.size := by omega
          have m10 := Ne.symm m9
          have hbw7 : w7.heap.size ≠ bc := by omega
          clear p0 p1 pz
          obtain ⟨p0, p1⟩ := id HD7.out.box
          go_region_held3 (fun w' => w'.cell? ⟨bp, 0, none⟩ = some (.slice (some ⟨gp, 0, none⟩) 2 2))
            (first | go_keep | trivial)
            (first
              | (go_at_call 27; refine (pickInt_any _ bc a n cap w7.heap.size 4 4 (by omega) (by omega) hbw7 (by first | exact ints_at4 w7 _ _ _ _ (i64_lit (by omega)) (i64_lit (by omega)) (i64_lit (by omega)) (i64_lit (by omega)) _ | exact ints_at4 (w7.drewN _) _ _ _ _ (i64_lit (by omega)) (i64_lit (by omega)) (i64_lit (by omega)) (i64_lit (by omega)) _) (by first | exact HD7.out.cur.alloc _ | exact (HD7.out.cur.drewN _).alloc _)).mono ?_; rintro e y1 ⟨v, -, rfl, hcy, hgy⟩; have hgz : w7.grownBy y1 (some bc) := (by first | exact gst_al hgy | exact gst_dal hgy); have HDY := Lib.hid (HD7.out.step HLT.out hgz hcy); have hqv := hgz.cell hqv (by have := HLT.out; simp; omega); have cz : y1.frozen? ⟨gp, 1, none⟩ = false := World.ownsRow.frozenAt HDY.out.ps.1 1; clear hcy hgy hgz; obtain ⟨p0, p1⟩ := id HDY.out.box))
          all_goals
            have HE := Lib.hid (HDY.out.setP HLT.out HCODE.out 1 v)
            clear hqv cz p0 p1
            obtain ⟨p0, p1⟩ := id HE.out.box
            obtain ⟨z0, z1, z2, z3, z4⟩ := id HE.out.res
            have hbp := HE.out.bplt
            have hne := HE.out.ne
            have m1 : bp ≠ w.heap.size := by omega
            have m2 := Ne.symm m1
            go_wp2_with fail
            go_region
            all_goals
              go_wp2_with fail
              refine bodyPost_ret (v := .tuple #[.slice (some ⟨gr, 0, none⟩) 3 3, .agg #[.slice (some ⟨gp, 0, none⟩) 2 2, .slice (some ⟨gf, 0, none⟩) 2 2]]) (by simp [results, Tryd.results13, go_sem, z0, z1]) rfl ⟨gr, gp, gf, 2, 2, _, _, _, rfl, (HE.out.fin _ _).1, (HE.out.fin _ _).2.1, (HE.out.fin _ _).2.2.1, (by first | exact (HE.out.fin _ _).2.2.2 | exact grown_drew (HE.out.fin _ _).2.2.2)⟩
        have n0 : (k == 0) = false := by simpa using e0
        have n1 : (k == 1) = false := by simpa using e1
        by_cases e2 : k = 2
        · subst e2
          clear n0 n1
          go_wp2_with fail
          refine (four_any _ _ _ _ _ HD7.out.cur).mono ?_
          rintro e w8 ⟨x4, y4, z4, u4, rfl, hc8, hg8⟩
          have HD8 := Lib.hid (HD7.out.step HLT.out hg8 hc8)
          clear hc8 hg8 p0 p1 pz
          obtain ⟨g', hg', -, c0, c1, c2, c3⟩ := HD8.out.rows.at 0 (by omega)
          simp only [Option.some.injEq, Addr.mk.injEq, and_true] at hg'
          subst hg'
          rw [Nat.zero_mul] at c0 c1 c2 c3
          rw [Nat.zero_add] at c1 c2 c3
          have hO8 : w8.ownsRow (w.heap.size + 1) 41 4 (.slice (some ⟨gr, 0, none⟩) 3 3) 3 (flat4 rs) := by
            have := HD8.out.rows.1
            unfold CdRow at this
            rw [HD8.out.rows.2] at this
            exact this
          have d0 := World.ownsRow.frozenAt hO8 0
          have d1 := World.ownsRow.frozenAt hO8 1
          have d2 := World.ownsRow.frozenAt hO8 2
          have d3 := World.ownsRow.frozenAt hO8 3
          clear hO8
          generalize (cd rs 0).1 = o0 at *
          generalize (cd rs 0).2.1 = o1 at *
          generalize (cd rs 0).2.2.1 = o2 at *
          generalize (cd rs 0).2.2.2 = o3 at *
          obtain ⟨rs2, hE⟩ := HD8.out.setR HLT.out HCODE.out x4 y4 z4 u4
          have HE := Lib.hid hE
          clear hE
          go_upto_region 20 with fail
          clear c0 c1 c2 c3 d0 d1 d2 d3
          generalize hWW : (((w8.setCell ⟨gr, 0, none⟩ (.int .i64 x4)).setCell ⟨gr, 1, none⟩ (.int .i64 y4)).setCell ⟨gr, 2, none⟩ (.int .i64 z4)).setCell ⟨gr, 3, none⟩ (.int .i64 u4) = W8 at *
          clear hWW HD8
          obtain ⟨p0, p1⟩ := id HE.out.box
          obtain ⟨z0, z1, z2, z3, z4⟩ := id HE.out.res
          have hbp := HE.out.bplt
          have hne := HE.out.ne
          have m1 : bp ≠ w.heap.size := by omega
          have m2 := Ne.symm m1
          go_wp2_with fail
          go_region
          all_goals
            go_wp2_with fail
            refine bodyPost_ret (v := .tuple #[.slice (some ⟨gr, 0, none⟩) 3 3, .agg #[.slice (some ⟨gp, 0, none⟩) 2 2, .slice (some ⟨gf, 0, none⟩) 2 2]]) (by simp [results, Tryd.results13, go_sem, z0, z1]) rfl ⟨gr, gp, gf, 2, 2, _, _, _, rfl, (HE.out.fin _ _).1, (HE.out.fin _ _).2.1, (HE.out.fin _ _).2.2.1, (by first | exact (HE.out.fin _ _).2.2.2 | exact grown_drew (HE.out.fin _ _).2.2.2)⟩
        have n2 : (k == 2) = false := by simpa using e2
        by_cases e3 : k = 3
        · subst e3
          clear n0 n1 n2
          obtain ⟨i0, hi0, hz0, hz1, hz2⟩ := info_parts Tryd.infoI
          have hO : w7.ownsRow (w.heap.size + 1) 3 1 (.slice (some ⟨gf, 0, none⟩) 2 2) 2 (ints [f, 1]) := HD7.out.fs.1
          have HOO := Lib.hid hO
          have hA : ∀ (gg cp : Nat) (w8 : World), w8.ownsRow (w.heap.size + 1) 3 1 (.slice (some ⟨gg, 0, none⟩) (2 + 1) cp) (2 + 1) (ints [f, 1] ++ [.int .i64 1]) → (w7.alloc (.cells #[.int .i64 1] 3)).grownBy w8 (some gf) → (some gf = some gg ∨ gg = w7.heap.size + 1) → gg < w8.heap.size →
              (w8.cell? ⟨bp, 1, none⟩ = some (.slice (some ⟨gf, 0, none⟩) 2 2) ∧ w8.frozen? ⟨bp, 1, none⟩ = false) ∧ Drn w bc a n cap (w8.setCell ⟨bp, 1, none⟩ (.slice (some ⟨gg, 0, none⟩) (2 + 1) cp)) gr gp gg bp 3 cp rs [1, 2] [f, 1, 1] := by
            intro gg cp w8 ho hg hat hgl
            have hd := HD7.out.alloc HLT.out (.cells #[.int .i64 1] 3)
            have k1 := hd.rows.ltG
            have k2 := hd.ps.ltG
            have k4 := hd.ne
            have hbl := hd.bplt
            have hwz : (w7.alloc (.cells #[.int .i64 1] 3)).heap.size = w7.heap.size + 1 := by simp
            have hgg : gg ≠ gr ∧ gg ≠ gp ∧ gg ≠ bp := by
              rcases hat with h | h
              · have : gf = gg := by simpa using h
                omega
              · omega
            have hz := World.grownBy.frozen_far hg ⟨bp, 1, none⟩ hbl (by simp; omega)
            have hx := hd.box.grown hg (by simp; omega)
            have hg2 := grown_setCell w8 bp 1 (.slice (some ⟨gg, 0, none⟩) (2 + 1) cp)
            have hcur := hd.cur.kept_new hg (B := w.heap.size) (fun k hk => by cases hk; omega) HLT.out HCODE.out
            have hgrw := grown_new hd.grown hg (fun k hk => by cases hk; omega)
            have hn := new1 (H := bp) hcur hgrw (by omega) HLT.out HCODE.out 1 (.slice (some ⟨gg, 0, none⟩) (2 + 1) cp)
            refine ⟨⟨hx.2, hz.trans hd.fz⟩, hn.1, hn.2, fp_grown (fp_grown hd.res hg (by simp; omega)) hg2 (by simp; omega), (hd.rows.keptG hg (by simp; omega)).keptG hg2 (by simp; omega), (hd.ps.keptG hg (by simp; omega)).keptG hg2 (by simp; omega), Ins.keptG (show Ins w8 (w.heap.size + 1) (some ⟨gg, 0, none⟩) 3 cp [f, 1, 1] from ⟨ho, rfl⟩) hg2 (by simp; omega), ?_, ?_, ?_⟩
            · obtain ⟨x0, x1⟩ := hx
              have x2 := hz.trans hd.fz
              refine ⟨?_, ?_⟩ <;> go_simp
            · rw [World.frozen?_setCell]; exact hz.trans hd.fz
            · omega
          have HAA := Lib.hid hA
          clear hA hO
          go_wp2_with (at_builtin; refine wpList_append_lies _ rfl _ _ _ rfl (w.heap.size + 1) 3 i0 _ 1 8 Tryd.underlying25 hi0 hz0 hz1 hz2 rfl (by omega) (.slice (some ⟨gf, 0, none⟩) 2 2) 2 (ints [f, 1]) (by rfl) (World.ownsRow.alloc HOO.out _) ⟨w7.heap.size, 0, none⟩ 1 1 [.int .i64 1] (by rfl) (by rfl) (World.news_of_block (cs := #[.int .i64 1]) (t := 3) (fr := (0, 0)) (heapD_new w7 _)) (by simp [Value.oneCell']) (by omega) (by unfold maxLen; omega) (by omega) (by simp; omega) (w7.heap.size + 1) (by simp) ?_; intro gg cp w8 hown8 hgrow8 hat8 hgl8; have HH8 := Lib.hid (HAA.out gg cp w8 hown8 hgrow8 hat8 hgl8); clear hown8 hgrow8 hat8 hgl8 p0 p1 pz; obtain ⟨p1, pz⟩ := id HH8.out.1)
          have HE := Lib.hid HH8.out.2
          clear HH8 HAA HOO
          go_upto_region 20 with fail
          clear p1 pz
          obtain ⟨p0, p1⟩ := id HE.out.box
          obtain ⟨z0, z1, z2, z3, z4⟩ := id HE.out.res
          have hbp := HE.out.bplt
          have hne := HE.out.ne
          have m1 : bp ≠ w.heap.size := by omega
          have m2 := Ne.symm m1
          go_wp2_with fail
          go_region
          all_goals
            go_wp2_with fail
            refine bodyPost_ret (v := .tuple #[.slice (some ⟨gr, 0, none⟩) 3 3, .agg #[.slice (some ⟨gp, 0, none⟩) 2 2, .slice (some ⟨gg, 0, none⟩) 3 cp]]) (by simp [results, Tryd.results13, go_sem, z0, z1]) rfl ⟨gr, gp, gg, 3, cp, _, _, _, rfl, (HE.out.fin _ _).1, (HE.out.fin _ _).2.1, (HE.out.fin _ _).2.2.1, (by first | exact (HE.out.fin _ _).2.2.2 | exact grown_drew (HE.out.fin _ _).2.2.2)⟩
        have n3 : (k == 3) = false := by simpa using e3
        have HE := HD7
        clear p0 p1 pz
        go_upto_region 20 with fail
        obtain ⟨p0, p1⟩ := id HE.out.box
        obtain ⟨z0, z1, z2, z3, z4⟩ := id HE.out.res
        have hbp := HE.out.bplt
        have hne := HE.out.ne
        have m1 : bp ≠ w.heap.size := by omega
        have m2 := Ne.symm m1
        go_wp2_with fail
        go_region
        all_goals
          go_wp2_with fail
          refine bodyPost_ret (v := .tuple #[.slice (some ⟨gr, 0, none⟩) 3 3, .agg #[.slice (some ⟨gp, 0, none⟩) 2 2, .slice (some ⟨gf, 0, none⟩) 2 2]]) (by simp [results, Tryd.results13, go_sem, z0, z1]) rfl ⟨gr, gp, gf, 2, 2, _, _, _, rfl, (HE.out.fin _ _).1, (HE.out.fin _ _).2.1, (HE.out.fin _ _).2.2.1, (by first | exact (HE.out.fin _ _).2.2.2 | exact grown_drew (HE.out.fin _ _).2.2.2)⟩
    · have h1' : decide (1 < f) = false := decide_eq_false h1
      clear h1
      have HR4 := HR3
      have HS4 := HS3
      have HF4 := HF3
      have HG4 := HG3
      have HC4 := HC3
      go_upto_region 9 with fail
      generalize hW : w3 = W at *
      clear hW
      have m1 : b ≠ W.heap.size := by have := HR4.out.lt; omega
      have m2 := Ne.symm m1
      have m3 : bs ≠ W.heap.size := by have := HS4.out.lt; omega
      have m4 := Ne.symm m3
      have hWs : w.heap.size < W.heap.size := by have := HR4.out.lt; omega
      clear s0 s1 s2 s3 t0 t1 t2 t3 r0 r1 r2 r3 f0 f1 f2 f3
      obtain ⟨⟨s0, s1, s2, s3⟩, t0, t1, t2, t3⟩ := id HS4.out
      obtain ⟨⟨r0, r1, r2, r3⟩, f0, f1, f2, f3⟩ := id HR4.out
      go_cut [7] from 57 to 61 (fun p wx => ∃ (gr : Nat) (rs : List Cd), p = .slice (some ⟨gr, 0, none⟩) 3 3 ∧ Cds wx W.heap.size (some ⟨gr, 0, none⟩) 3 3 rs ∧ CurOk wx bc a n cap ∧ W.grownBy wx (some bc))
      case first =>
        go_region_held3 (fun w' => w'.cell? ⟨b, 0, none⟩ = some (.int .i64 x) ∧ w'.cell? ⟨b, 1, none⟩ = some (.int .i64 y) ∧ w'.cell? ⟨b, 2, none⟩ = some (.int .i64 z) ∧ w'.cell? ⟨b, 3, none⟩ = some (.int .i64 u) ∧ w'.cell? ⟨bs, 0, none⟩ = some (.int .i64 xs) ∧ w'.cell? ⟨bs, 1, none⟩ = some (.int .i64 ys) ∧ w'.cell? ⟨bs, 2, none⟩ = some (.int .i64 zs) ∧ w'.cell? ⟨bs, 3, none⟩ = some (.int .i64 us))
          (first | go_keep | trivial)
          (first
            | (go_at_call 25; refine (row_any _ _ _ _ _ (by first | exact HC4.out | exact HC4.out.drewN _)).mono ?_; rintro e y1 ⟨x1, y1', z1', u1, -, rfl, hcy, hgy⟩; have hgz : W.grownBy y1 (some bc) := (by first | exact hgy | exact gst_drew hgy); have HCY := Lib.hid hcy; have HGY := Lib.hid hgz; have HRY := Lib.hid (HR4.out.grown hgz (by simp; omega)); have HSY := Lib.hid (HS4.out.grown hgz (by simp; omega)); clear hcy hgy hgz; have r0 := HRY.out.1.1; have r1 := HRY.out.1.2.1; have r2 := HRY.out.1.2.2.1; have r3 := HRY.out.1.2.2.2; have s0 := HSY.out.1.1; have s1 := HSY.out.1.2.1; have s2 := HSY.out.1.2.2.1; have s3 := HSY.out.1.2.2.2))
        all_goals
          go_wp2_with fail
          go_meet
          exact ⟨_, _, rfl, cds_lit3 _ _ HGY.out.size _ _ _ _ _ _ _ _ _ _ _ _, HCY.out.alloc _, grown_trans HGY.out (World.grownBy_alloc _ _ _)⟩
      case rest =>
        obtain ⟨gr, rs, rfl, hrows, hcx, hgx⟩ := hcut
        have HF5 := Lib.hid (fp_grown HF4.out hgx (by simp; omega))
        have HG5 := Lib.hid (grown_trans HG4.out hgx)
        have HC5 := Lib.hid hcx
        have HRW := Lib.hid (hrows.base (B' := w.heap.size + 1) (by omega))
        have hgrl := hrows.ltG
        clear hrows hcx hgx HR4 HF4 HG4 HC4 HS4 r0 r1 r2 r3 f0 f1 f2 f3 s0 s1 s2 s3 t0 t1 t2 t3 m1 m2 m3 m4
        rename World => w5
        have hw5 : w.heap.size < w5.heap.size := HF5.out.2.2.2.2
        go_upto_region 11 with fail
        have HD : RowKit.Hid (Drn w bc a n cap (((w5.alloc (.cells #[.int .i64 1, .int .i64 2] 3)).alloc (.cells #[.int .i64 f, .int .i64 1] 3)).alloc (.cells #[.slice (some ⟨w5.heap.size, 0, none⟩) 2 2, .slice (some ⟨w5.heap.size + 1, 0, none⟩) 2 2] 27)) gr w5.heap.size (w5.heap.size + 1) (w5.heap.size + 1 + 1) 2 2 rs [1, 2] [f, 1]) := Lib.hid (by
          have b1 := alloc_b w5 (.cells #[.int .i64 1, .int .i64 2] 3)
          have b2 := alloc_b (w5.alloc (.cells #[.int .i64 1, .int .i64 2] 3)) (.cells #[.int .i64 f, .int .i64 1] 3)
          have b3 := alloc_b ((w5.alloc (.cells #[.int .i64 1, .int .i64 2] 3)).alloc (.cells #[.int .i64 f, .int .i64 1] 3)) (.cells #[.slice (some ⟨w5.heap.size, 0, none⟩) 2 2, .slice (some ⟨w5.heap.size + 1, 0, none⟩) 2 2] 27)
          have i1 := ins_lit2 w5 (w.heap.size + 1) (by omega) 1 2
          have i2 := ins_lit2 (w5.alloc (.cells #[.int .i64 1, .int .i64 2] 3)) (w.heap.size + 1) (by simp; omega) f 1
          rw [World.size_alloc] at i2
          refine ⟨((HC5.out.alloc _).alloc _).alloc _, grown_trans (grown_trans (grown_trans HG5.out (World.grownBy_alloc _ _ _)) (World.grownBy_alloc _ _ _)) (World.grownBy_alloc _ _ _), fp_keep (Lib.hid (fp_keep (Lib.hid (fp_keep HF5 b1)) b2)) b3, ((HRW.out.below b1).below b2).below b3, (i1.below b2).below b3, i2.below b3, ?_, ?_, ?_⟩
          · refine ⟨?_, ?_⟩ <;> go_simp
          · go_simp
          · omega)
        generalize hW5 : ((w5.alloc (.cells #[.int .i64 1, .int .i64 2] 3)).alloc (.cells #[.int .i64 f, .int .i64 1] 3)).alloc (.cells #[.slice (some ⟨w5.heap.size, 0, none⟩) 2 2, .slice (some ⟨w5.heap.size + 1, 0, none⟩) 2 2] 27) = W6 at *
        generalize w5.heap.size + 1 + 1 = bp at *
        generalize w5.heap.size + 1 = gf at *
        generalize w5.heap.size = gp at *
        clear hW5 HF5 HG5 HC5 HRW hw5 hgrl
        go_wp2_with fail
        refine (below_any _ _ _ _ _ _ (by omega) HD.out.cur).mono ?_
        rintro e w7 ⟨k, ⟨hk0, hk1, -⟩, rfl, hc7, hg7⟩
        have HD7 := Lib.hid (HD.out.step HLT.out hg7 hc7)
        clear hk0 hk1 hc7 hg7 HD
        obtain ⟨p0, p1⟩ := id HD7.out.box
        have pz := HD7.out.fz
        have hne := HD7.out.ne
        have hgr := HD7.out.rows.ltG
        have hgp := HD7.out.ps.ltG
        have hgf := HD7.out.fs.ltG
        have hbp := HD7.out.bplt
        by_cases e0 : k = 0
        · subst e0
          go_upto_region 13 with fail
          obtain ⟨g', hg', -, c0⟩ := HD7.out.fs.at 0 (by omega)
          simp only [Option.some.injEq, Addr.mk.injEq, and_true] at hg'
          subst hg'
          have cz := World.ownsRow.frozenAt HD7.out.fs.1 0
          obtain ⟨qv, hqv⟩ : ∃ qv : Int, w7.cell? ⟨gf, 0, none⟩ = some (.int .i64 qv) := ⟨_, c0⟩
          clear c0
          have m5 : bp ≠ gf := by omega
          have m6 := Ne.symm m5
          have m7 : bp ≠ w7.heap.size := by omega
          have m8 := Ne.symm m7
          have m9 : gf ≠ w7.heap.size := by omega
          have m10 := Ne.symm m9
          have hbw7 : w7.heap.size ≠ bc := by omega
          clear p0 p1 pz
          obtain ⟨p0, p1⟩ := id HD7.out.box
          go_region_held3 (fun w' => w'.cell? ⟨bp, 1, none⟩ = some (.slice (some ⟨gf, 0, none⟩) 2 2))
            (first | go_keep | trivial)
            (first
              | (go_at_call 27; refine (pickInt_any _ bc a n cap w7.heap.size 4 4 (by omega) (by omega) hbw7 (by first | exact ints_at4 w7 _ _ _ _ (i64_lit (by omega)) (i64_lit (by omega)) (i64_lit (by omega)) (i64_lit (by omega)) _ | exact ints_at4 (w7.drewN _) _ _ _ _ (i64_lit (by omega)) (i64_lit (by omega)) (i64_lit (by omega)) (i64_lit (by omega)) _) (by first | exact HD7.out.cur.alloc _ | exact (HD7.out.cur.drewN _).alloc _)).mono ?_; rintro e y1 ⟨v, -, rfl, hcy, hgy⟩; have hgz : w7.grownBy y1 (some bc) := (by first | exact gst_al hgy | exact gst_dal hgy); have HDY := Lib.hid (HD7.out.step HLT.out hgz hcy); have hqv := hgz.cell hqv (by have := HLT.out; simp; omega); have cz : y1.frozen? ⟨gf, 0, none⟩ = false := World.ownsRow.frozenAt HDY.out.fs.1 0; clear hcy hgy hgz; obtain ⟨p0, p1⟩ := id HDY.out.box))
          all_goals
            have HE := Lib.hid (HDY.out.setF HLT.out HCODE.out 0 v)
            clear hqv cz p0 p1
            obtain ⟨p0, p1⟩ := id HE.out.box
            obtain ⟨z0, z1, z2, z3, z4⟩ := id HE.out.res
            have hbp := HE.out.bplt
            have hne := HE.out.ne
            have m1 : bp ≠ w.heap.size := by omega
            have m2 := Ne.symm m1
            go_wp2_with fail
            go_region
            all_goals
              go_wp2_with fail
              refine bodyPost_ret (v := .tuple #[.slice (some ⟨gr, 0, none⟩) 3 3, .agg #[.slice (some ⟨gp, 0, none⟩) 2 2, .slice (some ⟨gf, 0, none⟩) 2 2]]) (by simp [results, Tryd.results13, go_sem, z0, z1]) rfl ⟨gr, gp, gf, 2, 2, _, _, _, rfl, (HE.out.fin _ _).1, (HE.out.fin _ _).2.1, (HE.out.fin _ _).2.2.1, (by first | exact (HE.out.fin _ _).2.2.2 | exact grown_drew (HE.out.fin _ _).2.2.2)⟩
        by_cases e1 : k = 1
        · subst e1
          go_upto_region 15 with fail
          obtain ⟨g', hg', -, c0⟩ := HD7.out.ps.at 1 (by omega)
          simp only [Option.some.injEq, Addr.mk.injEq, and_true] at hg'
          subst hg'
          have cz := World.ownsRow.frozenAt HD7.out.ps.1 1
          obtain ⟨qv, hqv⟩ : ∃ qv : Int, w7.cell? ⟨gp, 1, none⟩ = some (.int .i64 qv) := ⟨_, c0⟩
          clear c0
          have m5 : bp ≠ gp := by omega
          have m6 := Ne.symm m5
          have m7 : bp ≠ w7.heap.size := by omega
          have m8 := Ne.symm m7
          have m9 : gp ≠ w7.heap.size := by omega
          have m10 := Ne.symm m9
          have hbw7 : w7.heap.size ≠ bc := by omega
          clear p0 p1 pz
          obtain ⟨p0, p1⟩ := id HD7.out.box
          go_region_held3 (fun w' => w'.cell? ⟨bp, 0, none⟩ = some (.slice (some ⟨gp, 0, none⟩) 2 2))
            (first | go_keep | trivial)
            (first
              | (go_at_call 27; refine (pickInt_any _ bc a n cap w7.heap.size 4 4 (by omega) (by omega) hbw7 (by first | exact ints_at4 w7 _ _ _ _ (i64_lit (by omega)) (i64_lit (by omega)) (i64_lit (by omega)) (i64_lit (by omega)) _ | exact ints_at4 (w7.drewN _) _ _ _ _ (i64_lit (by omega)) (i64_lit (by omega)) (i64_lit (by omega)) (i64_lit (by omega)) _) (by first | exact HD7.out.cur.alloc _ | exact (HD7.out.cur.drewN _).alloc _)).mono ?_; rintro e y1 ⟨v, -, rfl, hcy, hgy⟩; have hgz : w7.grownBy y1 (some bc) := (by first | exact gst_al hgy | exact gst_dal hgy); have HDY := Lib.hid (HD7.out.step HLT.out hgz hcy); have hqv := hgz.cell hqv (by have := HLT.out; simp; omega); have cz : y1.frozen? ⟨gp, 1, none⟩ = false := World.ownsRow.frozenAt HDY.out.ps.1 1; clear hcy hgy hgz; obtain ⟨p0, p1⟩ := id HDY.out.box))
          all_goals
            have HE := Lib.hid (HDY.out.setP HLT.out HCODE.out 1 v)
            clear hqv cz p0 p1
            obtain ⟨p0, p1⟩ := id HE.out.box
            obtain ⟨z0, z1, z2, z3, z4⟩ := id HE.out.res
            have hbp := HE.out.bplt
            have hne := HE.out.ne
            have m1 : bp ≠ w.heap.size := by omega
            have m2 := Ne.symm m1
            go_wp2_with fail
            go_region
            all_goals
              go_wp2_with fail
              refine bodyPost_ret (v := .tuple #[.slice (some ⟨gr, 0, none⟩) 3 3, .agg #[.slice (some ⟨gp, 0, none⟩) 2 2, .slice (some ⟨gf, 0, none⟩) 2 2]]) (by simp [results, Tryd.results13, go_sem, z0, z1]) rfl ⟨gr, gp, gf, 2, 2, _, _, _, rfl, (HE.out.fin _ _).1, (HE.out.fin _ _).2.1, (HE.out.fin _ _).2.2.1, (by first | exact (HE.out.fin _ _).2.2.2 | exact grown_drew (HE.out.fin _ _).2.2.2)⟩
        have n0 : (k == 0) = false := by simpa using e0
        have n1 : (k == 1) = false := by simpa using e1
        by_cases e2 : k = 2
        · subst e2
          clear n0 n1
          go_wp2_with fail
          refine (four_any _ _ _ _ _ HD7.out.cur).mono ?_
          rintro e w8 ⟨x4, y4, z4, u4, rfl, hc8, hg8⟩
          have HD8 := Lib.hid (HD7.out.step HLT.out hg8 hc8)
          clear hc8 hg8 p0 p1 pz
          obtain ⟨g', hg', -, c0, c1, c2, c3⟩ := HD8.out.rows.at 0 (by omega)
          simp only [Option.some.injEq, Addr.mk.injEq, and_true] at hg'
          subst hg'
          rw [Nat.zero_mul] at c0 c1 c2 c3
          rw [Nat.zero_add] at c1 c2 c3
          have hO8 : w8.ownsRow (w.heap.size + 1) 41 4 (.slice (some ⟨gr, 0, none⟩) 3 3) 3 (flat4 rs) := by
            have := HD8.out.rows.1
            unfold CdRow at this
            rw [HD8.out.rows.2] at this
            exact this
          have d0 := World.ownsRow.frozenAt hO8 0
          have d1 := World.ownsRow.frozenAt hO8 1
          have d2 := World.ownsRow.frozenAt hO8 2
          have d3 := World.ownsRow.frozenAt hO8 3
          clear hO8
          generalize (cd rs 0).1 = o0 at *
          generalize (cd rs 0).2.1 = o1 at *
          generalize (cd rs 0).2.2.1 = o2 at *
          generalize (cd rs 0).2.2.2 = o3 at *
          obtain ⟨rs2, hE⟩ := HD8.out.setR HLT.out HCODE.out x4 y4 z4 u4
          have HE := Lib.hid hE
          clear hE
          go_upto_region 20 with fail
          clear c0 c1 c2 c3 d0 d1 d2 d3
          generalize hWW : (((w8.setCell ⟨gr, 0, none⟩ (.int .i64 x4)).setCell ⟨gr, 1, none⟩ (.int .i64 y4)).setCell ⟨gr, 2, none⟩ (.int .i64 z4)).setCell ⟨gr, 3, none⟩ (.int .i64 u4) = W8 at *
          clear hWW HD8
          obtain ⟨p0, p1⟩ := id HE.out.box
          obtain ⟨z0, z1, z2, z3, z4⟩ := id HE.out.res
          have hbp := HE.out.bplt
          have hne := HE.out.ne
          have m1 : bp ≠ w.heap.size := by omega
          have m2 := Ne.symm m1
          go_wp2_with fail
          go_region
          all_goals
            go_wp2_with fail
            refine bodyPost_ret (v := .tuple #[.slice (some ⟨gr, 0, none⟩) 3 3, .agg #[.slice (some ⟨gp, 0, none⟩) 2 2, .slice (some ⟨gf, 0, none⟩) 2 2]]) (by simp [results, Tryd.results13, go_sem, z0, z1]) rfl ⟨gr, gp, gf, 2, 2, _, _, _, rfl, (HE.out.fin _ _).1, (HE.out.fin _ _).2.1, (HE.out.fin _ _).2.2.1, (by first | exact (HE.out.fin _ _).2.2.2 | exact grown_drew (HE.out.fin _ _).2.2.2)⟩
        have n2 : (k == 2) = false := by simpa using e2
        by_cases e3 : k = 3
        · subst e3
          clear n0 n1 n2
          obtain ⟨i0, hi0, hz0, hz1, hz2⟩ := info_parts Tryd.infoI
          have hO : w7.ownsRow (w.heap.size + 1) 3 1 (.slice (some ⟨gf, 0, none⟩) 2 2) 2 (ints [f, 1]) := HD7.out.fs.1
          have HOO := Lib.hid hO
          have hA : ∀ (gg cp : Nat) (w8 : World), w8.ownsRow (w.heap.size + 1) 3 1 (.slice (some ⟨gg, 0, none⟩) (2 + 1) cp) (2 + 1) (ints [f, 1] ++ [.int .i64 1]) → (w7.alloc (.cells #[.int .i64 1] 3)).grownBy w8 (some gf) → (some gf = some gg ∨ gg = w7.heap.size + 1) → gg < w8.heap.size →
              (w8.cell? ⟨bp, 1, none⟩ = some (.slice (some ⟨gf, 0, none⟩) 2 2) ∧ w8.frozen? ⟨bp, 1, none⟩ = false) ∧ Drn w bc a n cap (w8.setCell ⟨bp, 1, none⟩ (.slice (some ⟨gg, 0, none⟩) (2 + 1) cp)) gr gp gg bp 3 cp rs [1, 2] [f, 1, 1] := by
            intro gg cp w8 ho hg hat hgl
            have hd := HD7.out.alloc HLT.out (.cells #[.int .i64 1] 3)
            have k1 := hd.rows.ltG
            have k2 := hd.ps.ltG
            have k4 := hd.ne
            have hbl := hd.bplt
            have hwz : (w7.alloc (.cells #[.int .i64 1] 3)).heap.size = w7.heap.size + 1 := by simp
            have hgg : gg ≠ gr ∧ gg ≠ gp ∧ gg ≠ bp := by
              rcases hat with h | h
              · have : gf = gg := by simpa using h
                omega
              · omega
            have hz := World.grownBy.frozen_far hg ⟨bp, 1, none⟩ hbl (by simp; omega)
            have hx := hd.box.grown hg (by simp; omega)
            have hg2 := grown_setCell w8 bp 1 (.slice (some ⟨gg, 0, none⟩) (2 + 1) cp)
            have hcur := hd.cur.kept_new hg (B := w.heap.size) (fun k hk => by cases hk; omega) HLT.out HCODE.out
            have hgrw := grown_new hd.grown hg (fun k hk => by cases hk; omega)
            have hn := new1 (H := bp) hcur hgrw (by omega) HLT.out HCODE.out 1 (.slice (some ⟨gg, 0, none⟩) (2 + 1) cp)
            refine ⟨⟨hx.2, hz.trans hd.fz⟩, hn.1, hn.2, fp_grown (fp_grown hd.res hg (by simp; omega)) hg2 (by simp; omega), (hd.rows.keptG hg (by simp; omega)).keptG hg2 (by simp; omega), (hd.ps.keptG hg (by simp; omega)).keptG hg2 (by simp; omega), Ins.keptG (show Ins w8 (w.heap.size + 1) (some ⟨gg, 0, none⟩) 3 cp [f, 1, 1] from ⟨ho, rfl⟩) hg2 (by simp; omega), ?_, ?_, ?_⟩
            · obtain ⟨x0, x1⟩ := hx
              have x2 := hz.trans hd.fz
              refine ⟨?_, ?_⟩ <;> go_simp
            · rw [World.frozen?_setCell]; exact hz.trans hd.fz
            · omega
          have HAA := Lib.hid hA
          clear hA hO
          go_wp2_with (at_builtin; refine wpList_append_lies _ rfl _ _ _ rfl (w.heap.size + 1) 3 i0 _ 1 8 Tryd.underlying25 hi0 hz0 hz1 hz2 rfl (by omega) (.slice (some ⟨gf, 0, none⟩) 2 2) 2 (ints [f, 1]) (by rfl) (World.ownsRow.alloc HOO.out _) ⟨w7.heap.size, 0, none⟩ 1 1 [.int .i64 1] (by rfl) (by rfl) (World.news_of_block (cs := #[.int .i64 1]) (t := 3) (fr := (0, 0)) (heapD_new w7 _)) (by simp [Value.oneCell']) (by omega) (by unfold maxLen; omega) (by omega) (by simp; omega) (w7.heap.size + 1) (by simp) ?_; intro gg cp w8 hown8 hgrow8 hat8 hgl8; have HH8 := Lib.hid (HAA.out gg cp w8 hown8 hgrow8 hat8 hgl8); clear hown8 hgrow8 hat8 hgl8 p0 p1 pz; obtain ⟨p1, pz⟩ := id HH8.out.1)
          have HE := Lib.hid HH8.out.2
          clear HH8 HAA HOO
          go_upto_region 20 with fail
          clear p1 pz
          obtain ⟨p0, p1⟩ := id HE.out.box
          obtain ⟨z0, z1, z2, z3, z4⟩ := id HE.out.res
          have hbp := HE.out.bplt
          have hne := HE.out.ne
          have m1 : bp ≠ w.heap.size := by omega
          have m2 := Ne.symm m1
          go_wp2_with fail
          go_region
          all_goals
            go_wp2_with fail
            refine bodyPost_ret (v := .tuple #[.slice (some ⟨gr, 0, none⟩) 3 3, .agg #[.slice (some ⟨gp, 0, none⟩) 2 2, .slice (some ⟨gg, 0, none⟩) 3 cp]]) (by simp [results, Tryd.results13, go_sem, z0, z1]) rfl ⟨gr, gp, gg, 3, cp, _, _, _, rfl, (HE.out.fin _ _).1, (HE.out.fin _ _).2.1, (HE.out.fin _ _).2.2.1, (by first | exact (HE.out.fin _ _).2.2.2 | exact grown_drew (HE.out.fin _ _).2.2.2)⟩
        have n3 : (k == 3) = false := by simpa using e3
        have HE := HD7
        clear p0 p1 pz
        go_upto_region 20 with fail
        obtain ⟨p0, p1⟩ := id HE.out.box
        obtain ⟨z0, z1, z2, z3, z4⟩ := id HE.out.res
        have hbp := HE.out.bplt
        have hne := HE.out.ne
        have m1 : bp ≠ w.heap.size := by omega
        have m2 := Ne.symm m1
        go_wp2_with fail
        go_region
        all_goals
          go_wp2_with fail
          refine bodyPost_ret (v := .tuple #[.slice (some ⟨gr, 0, none⟩) 3 3, .agg #[.slice (some ⟨gp, 0, none⟩) 2 2, .slice (some ⟨gf, 0, none⟩) 2 2]]) (by simp [results, Tryd.results13, go_sem, z0, z1]) rfl ⟨gr, gp, gf, 2, 2, _, _, _, rfl, (HE.out.fin _ _).1, (HE.out.fin _ _).2.1, (HE.out.fin _ _).2.2.1, (by first | exact (HE.out.fin _ _).2.2.2 | exact grown_drew (HE.out.fin _ _).2.2.2)⟩
end Go.Proofs.YtidmhpeaehmmhaaDoor
