/- Rows of Row in the laws: as flat cells; as they come in, their size, their copy, their comparison. -/
import Derived.Test.YtidmhpeaehmmhabFourP
import Derived.Test.YtidmhpeaehmmhabThrustC
import Derived.Deep.Slices
import Derived.Deep.Strs
namespace Go.Proofs.Ytidmhpeaehmmhab
set_option maxRecDepth 100000
open Go.ChangeShapes Go.WideShapes Go.ChangeAt Go.RowKit Go.Joins Go.Deep

/-- A slice of them in a row of the program's own. -/
def CdRow (w : World) (B : Nat) (v : Value) (rs : List Cd) : Prop := w.ownsRow B 45 4 v rs.length (flat4 rs)
/-- A row at the head of block g. -/
def CdRowAt (w : World) (B g cap : Nat) (rs : List Cd) : Prop := CdRow w B (.slice (some ⟨g, 0, none⟩) rs.length cap) rs
theorem CdRowAt.lt {w : World} {B g cap : Nat} {rs : List Cd} (h : CdRowAt w B g cap rs) : B ≤ g ∧ g < w.heap.size ∧ rs.length ≤ cap ∧ cap ≤ maxLen := by
  rcases h.2 with ⟨h1, -⟩ | ⟨g', cap', cur, h1, hB, hg, hc, hm, -⟩
  · simp at h1
  · simp at h1; obtain ⟨rfl, rfl⟩ := h1; exact ⟨hB, by have := (Array.getElem?_eq_some_iff.1 hg).1; exact this, hc, hm⟩
theorem CdRowAt.cells {w : World} {B g cap : Nat} {rs : List Cd} (h : CdRowAt w B g cap rs) (i : Nat) (hi : i < rs.length) :
    w.cell? ⟨g, i * 4, none⟩ = some (.int .i64 (cd rs i).1) ∧ w.cell? ⟨g, i * 4 + 1, none⟩ = some (.int .i64 (cd rs i).2.1) ∧ w.cell? ⟨g, i * 4 + 2, none⟩ = some (.int .i64 (cd rs i).2.2.1) ∧ w.cell? ⟨g, i * 4 + 3, none⟩ = some (.int .i64 (cd rs i).2.2.2) := by
  rw [World.ownsRow.cellAt h (i * 4) (by omega), World.ownsRow.cellAt h (i * 4 + 1) (by omega), World.ownsRow.cellAt h (i * 4 + 2) (by omega), World.ownsRow.cellAt h (i * 4 + 3) (by omega)]
  exact flat4_at rs i hi
theorem CdRow.below {w w' : World} {B : Nat} {v : Value} {rs : List Cd} (h : CdRow w B v rs) (hb : Below w.heap.size w w') : CdRow w' B v rs := owns_below h hb
theorem CdRow.base {w : World} {B B' : Nat} {v : Value} {rs : List Cd} (h : CdRow w B v rs) (hb : B' ≤ B) : CdRow w B' v rs := owns_base h hb
theorem CdRow.alloc {w : World} {B : Nat} {v : Value} {rs : List Cd} (h : CdRow w B v rs) (o : Obj) : CdRow (w.alloc o) B v rs := World.ownsRow.alloc h o
theorem CdRowAt.row {w : World} {B g cap : Nat} {rs : List Cd} (h : CdRowAt w B g cap rs) : CdRow w B (.slice (some ⟨g, 0, none⟩) rs.length cap) rs := h
theorem CdRow.nil (w : World) (B : Nat) : CdRow w B (.slice none 0 0) [] := World.ownsRow_nil w B _ _
theorem CdRow.cases' {w : World} {B : Nat} {v : Value} {rs : List Cd} (h : CdRow w B v rs) :
    (v = .slice none 0 0 ∧ rs = []) ∨ ∃ g cap, v = .slice (some ⟨g, 0, none⟩) rs.length cap ∧ CdRowAt w B g cap rs ∧ B ≤ g ∧ g < w.heap.size ∧ rs.length ≤ cap ∧ cap ≤ maxLen := by
  have hh := h
  rcases h.2 with ⟨rfl, hz⟩ | ⟨g, cap, cur, rfl, hB, hg, hc, hm, -⟩
  · exact .inl ⟨rfl, List.length_eq_zero_iff.1 hz⟩
  · exact .inr ⟨g, cap, rfl, hh, hB, by have := (Array.getElem?_eq_some_iff.1 hg).1; exact this, hc, hm⟩
theorem cdrow_slice {w : World} {B : Nat} {v : Value} {rs : List Cd} (h : CdRow w B v rs) : ∃ a cap, v = .slice a rs.length cap ∧ rs.length ≤ cap ∧ cap ≤ maxLen := by
  rcases h.cases' with ⟨rfl, rfl⟩ | ⟨g, cap, rfl, -, -, -, h1, h2⟩
  · exact ⟨none, 0, rfl, Nat.le_refl _, Nat.zero_le _⟩
  · exact ⟨_, cap, rfl, h1, h2⟩
theorem CdRow.after {w w' : World} {B n : Nat} {v : Value} {rs : List Cd} (h : CdRow w B v rs) (hb : Below (w.drewN n).heap.size (w.drewN n) w') : CdRow w' B v rs := owns_below (w := w.drewN n) h hb
/-- A slice of them as a call is handed it: nil, or a row of the program's own. -/
def Cds (w : World) (B : Nat) (a : Option Addr) (m cap : Nat) (rs : List Cd) : Prop := CdRow w B (.slice a m cap) rs ∧ rs.length = m
theorem Cds.below {w w' : World} {B m cap : Nat} {a : Option Addr} {rs : List Cd} (h : Cds w B a m cap rs) (hb : Below w.heap.size w w') : Cds w' B a m cap rs := ⟨h.1.below hb, h.2⟩
theorem Cds.after {w w' : World} {B m cap n : Nat} {a : Option Addr} {rs : List Cd} (h : Cds w B a m cap rs) (hb : Below (w.drewN n).heap.size (w.drewN n) w') : Cds w' B a m cap rs := ⟨h.1.after hb, h.2⟩
theorem Cds.alloc {w : World} {B m cap : Nat} {a : Option Addr} {rs : List Cd} (h : Cds w B a m cap rs) (o : Obj) : Cds (w.alloc o) B a m cap rs := ⟨h.1.alloc o, h.2⟩
theorem Cds.base {w : World} {B B' m cap : Nat} {a : Option Addr} {rs : List Cd} (h : Cds w B a m cap rs) (hb : B' ≤ B) : Cds w B' a m cap rs := ⟨h.1.base hb, h.2⟩
theorem Cds.cap {w : World} {B m cap : Nat} {a : Option Addr} {rs : List Cd} (h : Cds w B a m cap rs) : m ≤ cap ∧ cap ≤ maxLen := by
  obtain ⟨a', cap', he, h1, h2⟩ := cdrow_slice h.1
  simp only [Value.slice.injEq] at he
  obtain ⟨-, e1, rfl⟩ := he
  exact ⟨by omega, h2⟩
theorem Cds.at {w : World} {B m cap : Nat} {a : Option Addr} {rs : List Cd} (h : Cds w B a m cap rs) (i : Nat) (hi : i < m) :
    ∃ g, a = some ⟨g, 0, Option.none⟩ ∧ B ≤ g ∧ w.cell? ⟨g, i * 4, Option.none⟩ = some (.int .i64 (cd rs i).1) ∧ w.cell? ⟨g, i * 4 + 1, Option.none⟩ = some (.int .i64 (cd rs i).2.1) ∧ w.cell? ⟨g, i * 4 + 2, Option.none⟩ = some (.int .i64 (cd rs i).2.2.1) ∧ w.cell? ⟨g, i * 4 + 3, Option.none⟩ = some (.int .i64 (cd rs i).2.2.2) := by
  have hl := h.2
  rcases h.1.cases' with ⟨-, rfl⟩ | ⟨g, cap', he, hr, hB, -⟩
  · simp at hl; omega
  · simp only [Value.slice.injEq] at he
    obtain ⟨rfl, -, -⟩ := he
    exact ⟨g, rfl, hB, hr.cells i (by omega)⟩

/-- What came in: whatever address; each four ints. -/
def InCds (w : World) (a : Option Addr) (n cap : Nat) (rs : List Cd) : Prop :=
  rs.length = n ∧ n ≤ cap ∧ cap ≤ maxLen ∧
  ((a = none ∧ n = 0 ∧ cap = 0) ∨ ∃ x, a = some x ∧ ∀ i, i < n → w.cell? (x.add (i * 4)) = some (.int .i64 (cd rs i).1) ∧ w.cell? (x.add (i * 4 + 1)) = some (.int .i64 (cd rs i).2.1) ∧ w.cell? (x.add (i * 4 + 2)) = some (.int .i64 (cd rs i).2.2.1) ∧ w.cell? (x.add (i * 4 + 3)) = some (.int .i64 (cd rs i).2.2.2))
theorem InCds.below {w w' : World} {a : Option Addr} {n cap : Nat} {rs : List Cd} (h : InCds w a n cap rs) (hb : Below w.heap.size w w') : InCds w' a n cap rs := by
  obtain ⟨h1, h2, h3, h5⟩ := h
  refine ⟨h1, h2, h3, h5.imp id ?_⟩
  rintro ⟨x, rfl, hx⟩
  exact ⟨x, rfl, fun i hi => ⟨(hb.cell (cell_block_lt (hx i hi).1)).trans (hx i hi).1, (hb.cell (cell_block_lt (hx i hi).2.1)).trans (hx i hi).2.1, (hb.cell (cell_block_lt (hx i hi).2.2.1)).trans (hx i hi).2.2.1, (hb.cell (cell_block_lt (hx i hi).2.2.2)).trans (hx i hi).2.2.2⟩⟩

theorem Try.infoCd : (Try.prog.info? 45).map (fun i => (i.zero, i.size, i.bytes)) = some (some (.agg #[.int .i64 0, .int .i64 0, .int .i64 0, .int .i64 0]), 4, 32) := by kernel_rfl

/-- Four cells that read as one are four ints. -/
theorem cd_cells {H : Type} {enc : TypeId × Value → H} {w : World} {base fuel : Nat} {spare : Nat → Bool} {held : Bool} {c0 c1 c2 c3 : Value} {d : DataW H × List MemPlace}
    (hf : DataW.trod enc Try.prog w base spare held fuel 47 [c0, c1, c2, c3] = some d) : ∃ x y z u : Int, c0 = .int .i64 x ∧ c1 = .int .i64 y ∧ c2 = .int .i64 z ∧ c3 = .int .i64 u := by
  obtain ⟨y0, y1, y2, y3, n, h0, h1, h2, h3⟩ := four_fields Try.underlying47 hf
  have ci : Try.prog.cellsOf 3 = 1 := by kernel_rfl
  simp only [ci, List.drop_zero, List.take_succ_cons, List.take_zero, List.drop_succ_cons] at h0 h1 h2 h3
  obtain ⟨a, e0, -, -⟩ := DataW.trod_int Try.underlying3 h0
  obtain ⟨b, e1, -, -⟩ := DataW.trod_int Try.underlying3 h1
  obtain ⟨c, e2, -, -⟩ := DataW.trod_int Try.underlying3 h2
  obtain ⟨e, e3, -, -⟩ := DataW.trod_int Try.underlying3 h3
  simp at e0 e1 e2 e3
  exact ⟨a, b, c, e, e0, e1, e2, e3⟩

/-- A list of them that came in. -/
theorem open_cds {H : Type} {enc : TypeId × Value → H} {w : World} {r : Reach} {b0 base : Nat} {spare : Nat → Bool} {held : Bool} {v : Value} {d : DataW H} {p : List MemPlace}
    (hv : Value.okWide Try.prog w r b0 22 v) (h : DataW.Trod enc Try.prog w base spare held 22 v d p) :
    ∃ (a : Option Addr) (n cap : Nat) (rs : List Cd), v = .slice a n cap ∧ InCds w a n cap rs := by
  obtain ⟨a, len, cap, rfl⟩ := okWide_slice Try.underlying22 hv
  obtain ⟨fuel, hf⟩ := h
  have hf1 : DataW.trod enc Try.prog w base spare held fuel 22 [.slice a len cap] = some (d, p) := by simpa [Value.cells] using hf
  have cj : Try.prog.cellsOf 47 = 4 := by kernel_rfl
  rcases open_slice Try.underlying22 hf1 with ⟨hc, _⟩ | ⟨ad, len', cap', m, fu, D, Pl, hc, _, hl, hm, hmm, _, hcell⟩
  · simp at hc
    obtain ⟨rfl, rfl, rfl⟩ := hc
    exact ⟨none, 0, 0, [], rfl, rfl, Nat.le_refl _, Nat.zero_le _, .inl ⟨rfl, rfl, rfl⟩⟩
  · simp at hc
    obtain ⟨rfl, rfl, rfl⟩ := hc
    have hlm : len ≤ m := by rw [hmm]; split <;> omega
    rw [cj] at hcell
    obtain ⟨rs, hcl, hq⟩ := cds_of (n := len) (q := fun i p => w.cell? (ad.add (i * 4)) = some (.int .i64 p.1) ∧ w.cell? (ad.add (i * 4 + 1)) = some (.int .i64 p.2.1) ∧ w.cell? (ad.add (i * 4 + 2)) = some (.int .i64 p.2.2.1) ∧ w.cell? (ad.add (i * 4 + 3)) = some (.int .i64 p.2.2.2)) (fun i hi => by
      obtain ⟨cs', h1, h2⟩ := hcell i (by omega)
      obtain ⟨_, hlen', hat⟩ := World.cells?_some h1
      match cs', hlen' with
      | [v0, v1, v2, v3], _ =>
        obtain ⟨x, y, z, u, rfl, rfl, rfl, rfl⟩ := cd_cells h2
        have e0 := hat 0 (by omega)
        have e1 := hat 1 (by omega)
        have e2 := hat 2 (by omega)
        have e3 := hat 3 (by omega)
        rw [Go.Deep.add_add] at e0 e1 e2 e3
        exact ⟨(x, y, z, u), by simpa using e0, by simpa using e1, by simpa using e2, by simpa using e3⟩)
    exact ⟨some ad, len, cap, rs, rfl, hcl, hl, hm, .inr ⟨ad, rfl, fun i hi => hq i hi⟩⟩

/-- What szRowS answers, of whatever is left. -/
def szCd (n : Nat) (L : Int) : Int := if (n : Int) ≤ L then L - n else -1
theorem szRowS (a : Option Addr) (n cap : Nat) (L : Int) (w : World) (hn : n ≤ maxLen) (hL : 0 ≤ L ∧ L ≤ 1048576) :
    Calls Try.prog 6 #[.slice a n cap, .int .i64 L] w fun e w' => e = .returned (.int .i64 (szCd n L)) ∧ w = w' := by
  unfold maxLen at hn
  obtain ⟨hL0, hL1⟩ := hL
  by_cases h : (n : Int) ≤ L
  · go_enter Try.func6, Try.ntmps6
    go_wp2
    go_ret
    exact ⟨ret_i64 (by unfold szCd; rw [if_pos h]), rfl⟩
  · go_enter Try.func6, Try.ntmps6
    go_wp2
    go_ret
    exact ⟨ret_i64 (by unfold szCd; rw [if_neg (by omega)]), rfl⟩

theorem cellsCd : Try.prog.cellsOf 47 = 4 := by kernel_rfl
/-- One that came in: four ints. -/
theorem open_cd {H : Type} {enc : TypeId × Value → H} {w : World} {r : Reach} {b0 base : Nat} {spare : Nat → Bool} {held : Bool} {v : Value} {d : DataW H} {p : List MemPlace}
    (hv : Value.okWide Try.prog w r b0 47 v) (h : DataW.Trod enc Try.prog w base spare held 47 v d p) :
    ∃ x y z u : Int, v = .agg #[.int .i64 x, .int .i64 y, .int .i64 z, .int .i64 u] ∧ I64 x ∧ I64 y ∧ I64 z ∧ I64 u := by
  obtain ⟨cs, rfl, hsz⟩ := okWide_struct Try.underlying47 hv
  obtain ⟨c0, c1, c2, c3, rfl⟩ := array4T (hsz.trans cellsCd)
  obtain ⟨fuel, hf⟩ := h
  obtain ⟨y0, y1, y2, y3, n, h0, h1, h2, h3⟩ := four_fields Try.underlying47 hf
  have ci : Try.prog.cellsOf 3 = 1 := by kernel_rfl
  simp only [Value.cells, ci, List.drop_zero, List.take_succ_cons, List.take_zero, List.drop_succ_cons] at h0 h1 h2 h3
  obtain ⟨a, e0, -, wa⟩ := DataW.trod_int Try.underlying3 h0
  obtain ⟨b, e1, -, wb⟩ := DataW.trod_int Try.underlying3 h1
  obtain ⟨c, e2, -, wc⟩ := DataW.trod_int Try.underlying3 h2
  obtain ⟨e, e3, -, we⟩ := DataW.trod_int Try.underlying3 h3
  simp at e0 e1 e2 e3
  subst e0 e1 e2 e3
  exact ⟨a, b, c, e, rfl, I64.of_wf wa, I64.of_wf wb, I64.of_wf wc, I64.of_wf we⟩

set_option maxHeartbeats 1000000 in
theorem toRow (h v m d : Int) (w : World) :
    Calls Try.prog 23 #[.agg #[.int .i64 h, .int .i64 v, .int .i64 m, .int .i64 d]] w fun e w' => e = .returned (.agg #[.int .i64 h, .int .i64 v, .int .i64 m, .int .i64 d]) ∧ Below w.heap.size w w' := by
  go_enter Try.func23, Try.ntmps23
  go_wp2_with fail
  refine bodyPost_ret (v := .agg #[.int .i64 h, .int .i64 v, .int .i64 m, .int .i64 d]) (by simp [results, Try.results23, go_sem]) rfl ⟨rfl, ?_⟩
  repeat (first | refine Below.setCell ?_ (by simp <;> omega) _ | refine Below.alloc ?_ (by simp <;> omega) _ | exact Below.refl _ _)

set_option maxHeartbeats 400000 in
theorem eqRow_same (h v m d : Int) (w : World) :
    Calls Try.prog 27 #[.agg #[.int .i64 h, .int .i64 v, .int .i64 m, .int .i64 d], .agg #[.int .i64 h, .int .i64 v, .int .i64 m, .int .i64 d]] w fun e w' => e = .returned (.bool true) ∧ Below w.heap.size w w' := by
  have hb0 := ((Below.refl w.heap.size w).alloc (by simp) (.cells #[.int .i64 h, .int .i64 v, .int .i64 m, .int .i64 d] 45)).alloc (by simp) (.cells #[.int .i64 h, .int .i64 v, .int .i64 m, .int .i64 d] 45)
  have HB0 := Lib.hid hb0
  clear hb0
  go_enter Try.func27, Try.ntmps27
  go_wp2_with fail
  go_ret
  exact ⟨rfl, HB0.out⟩

set_option maxHeartbeats 1000000 in
theorem toRowS (a : Option Addr) (n cap : Nat) (rs : List Cd) (w : World) (h : InCds w a n cap rs) (hn : n ≤ 1048576) :
    Calls Try.prog 9 #[.slice a n cap] w fun e w' => ∃ g, w.heap.size ≤ g ∧ e = .returned (.slice (some ⟨g, 0, none⟩) n n) ∧ Cds w' w.heap.size (some ⟨g, 0, none⟩) n n rs ∧ Below w.heap.size w w' := by
  obtain ⟨i0, hi, hz0, hz1, hz2⟩ := info_parts Try.infoCd
  obtain ⟨hl, hc, hm, hcase⟩ := h
  have hX : ∃ ad : Addr, 0 < n → a = some ad ∧ ∀ i, i < n → w.cell? (ad.add (i * 4)) = some (.int .i64 (cd rs i).1) ∧ w.cell? (ad.add (i * 4 + 1)) = some (.int .i64 (cd rs i).2.1) ∧ w.cell? (ad.add (i * 4 + 2)) = some (.int .i64 (cd rs i).2.2.1) ∧ w.cell? (ad.add (i * 4 + 3)) = some (.int .i64 (cd rs i).2.2.2) := by
    rcases hcase with ⟨rfl, h0, -⟩ | ⟨x, rfl, hx⟩
    · exact ⟨⟨0, 0, none⟩, fun h => absurd h (by omega)⟩
    · exact ⟨x, fun _ => ⟨rfl, hx⟩⟩
  clear hcase
  unfold maxLen at hm
  subst hl
  go_enter Try.func9, Try.ntmps9
  go_wp2_with (at_make; refine wpList_make_full _ rfl _ _ 30 rfl w.heap.size 45 i0 (.agg #[.int .i64 0, .int .i64 0, .int .i64 0, .int .i64 0]) 4 Try.underlying30 hi hz0 hz1 .i64 .i64 _ _ rs.length rfl rfl rfl rfl (by rw [hz2]; omega) (by unfold maxLen; omega) (Nat.le_refl _) ?_; intro w0 hown0 hgrow0)
  rw [made_zero4, ← flat4To_zero] at hown0
  have hb0 : Below w.heap.size w w0 := (Below.refl _ _).grown hgrow0 (Nat.le_refl _) (fun k hk => by cases hk)
  clear hgrow0
  obtain ⟨ad, hX⟩ := hX
  have HX := Lib.hid hX
  clear hX
  generalize hN : rs.length = N at *
  have HN := Lib.hid hN
  clear hN
  go_loopw [4] (fun t wr => ∃ k : Nat, k ≤ N ∧ t = .int .i64 k ∧ wr.ownsRow w.heap.size 45 4 (.slice (some ⟨w.heap.size, 0, none⟩) N N) N (flat4To rs k) ∧ Below w.heap.size w wr)
    (fun t _ => N - (intOf t).toNat)
  case atStart => exact ⟨0, Nat.zero_le _, rfl, hown0, hb0⟩
  case round =>
    obtain ⟨k, hk, rfl, hown, hbw⟩ := hrel
    have HO := Lib.hid hown
    have HB := Lib.hid hbw
    by_cases hlt : k < N
    · obtain ⟨rfl, hcell⟩ := HX.out (by omega)
      obtain ⟨q0, q1, q2, q3⟩ := hcell k hlt
      have hadlt := cell_block_lt q0
      rw [adb4] at hadlt
      have r0 : wr.cell? (ad.add (k * 4)) = some (.int .i64 (cd rs k).1) := by rw [hbw.cell (by rw [adb4]; exact hadlt)]; exact q0
      have r1 : wr.cell? ⟨(ad.add (k * 4)).block, (ad.add (k * 4)).off + 1, none⟩ = some (.int .i64 (cd rs k).2.1) := by rw [show (⟨(ad.add (k * 4)).block, (ad.add (k * 4)).off + 1, none⟩ : Addr) = (ad.add (k * 4)).add 1 from rfl, Go.Deep.add_add, hbw.cell (by rw [adb4]; exact hadlt)]; exact q1
      have r2 : wr.cell? ⟨(ad.add (k * 4)).block, (ad.add (k * 4)).off + 2, none⟩ = some (.int .i64 (cd rs k).2.2.1) := by rw [show (⟨(ad.add (k * 4)).block, (ad.add (k * 4)).off + 2, none⟩ : Addr) = (ad.add (k * 4)).add 2 from rfl, Go.Deep.add_add, hbw.cell (by rw [adb4]; exact hadlt)]; exact q2
      have r3 : wr.cell? ⟨(ad.add (k * 4)).block, (ad.add (k * 4)).off + 3, none⟩ = some (.int .i64 (cd rs k).2.2.2) := by rw [show (⟨(ad.add (k * 4)).block, (ad.add (k * 4)).off + 3, none⟩ : Addr) = (ad.add (k * 4)).add 3 from rfl, Go.Deep.add_add, hbw.cell (by rw [adb4]; exact hadlt)]; exact q3
      clear q0 q1 q2 q3 hcell HX hown hbw
      have HP := Lib.hid hlt
      obtain ⟨px, hpx⟩ : ∃ q, q = (cd rs k).1 := ⟨_, rfl⟩
      rw [← hpx] at r0
      have HPX := Lib.hid hpx
      obtain ⟨py, hpy⟩ : ∃ q, q = (cd rs k).2.1 := ⟨_, rfl⟩
      rw [← hpy] at r1
      have HPY := Lib.hid hpy
      obtain ⟨pz, hpz⟩ : ∃ q, q = (cd rs k).2.2.1 := ⟨_, rfl⟩
      rw [← hpz] at r2
      have HPZ := Lib.hid hpz
      obtain ⟨pu, hpu⟩ : ∃ q, q = (cd rs k).2.2.2 := ⟨_, rfl⟩
      rw [← hpu] at r3
      have HPU := Lib.hid hpu
      clear hpx hpy hpz hpu
      go_wp2_with fail
      refine (toRow _ _ _ _ _).mono ?_
      rintro e w1 ⟨rfl, hb1⟩
      have ho1 := owns_below HO.out hb1
      have hlN := HN.out
      have c0 : w1.cell? ⟨w.heap.size, k * 4, none⟩ = some (.int .i64 0) := (World.ownsRow.cellAt ho1 (k * 4) (by omega)).trans (flat4To_at rs k 0 (by omega) (by omega))
      have c1 : w1.cell? ⟨w.heap.size, k * 4 + 1, none⟩ = some (.int .i64 0) := (World.ownsRow.cellAt ho1 (k * 4 + 1) (by omega)).trans (flat4To_at rs k 1 (by omega) (by omega))
      have c2 : w1.cell? ⟨w.heap.size, k * 4 + 2, none⟩ = some (.int .i64 0) := (World.ownsRow.cellAt ho1 (k * 4 + 2) (by omega)).trans (flat4To_at rs k 2 (by omega) (by omega))
      have c3 : w1.cell? ⟨w.heap.size, k * 4 + 3, none⟩ = some (.int .i64 0) := (World.ownsRow.cellAt ho1 (k * 4 + 3) (by omega)).trans (flat4To_at rs k 3 (by omega) (by omega))
      have hfr := fun j => World.ownsRow.frozenAt ho1 j
      have f0 := hfr (k * 4)
      have f1 := hfr (k * 4 + 1)
      have f2 := hfr (k * 4 + 2)
      have f3 := hfr (k * 4 + 3)
      have ho2 := (World.ownsRow.stored (World.ownsRow.stored (World.ownsRow.stored (World.ownsRow.stored ho1 (k * 4) (.int .i64 px)).1 (k * 4 + 1) (.int .i64 py)).1 (k * 4 + 2) (.int .i64 pz)).1 (k * 4 + 3) (.int .i64 pu)).1
      rw [HPX.out, HPY.out, HPZ.out, HPU.out, flat4To_next rs k (by omega), ← HPX.out, ← HPY.out, ← HPZ.out, ← HPU.out] at ho2
      have hbb : Below w.heap.size w ((((w1.setCell ⟨w.heap.size, k * 4, none⟩ (.int .i64 px)).setCell ⟨w.heap.size, k * 4 + 1, none⟩ (.int .i64 py)).setCell ⟨w.heap.size, k * 4 + 2, none⟩ (.int .i64 pz)).setCell ⟨w.heap.size, k * 4 + 3, none⟩ (.int .i64 pu)) :=
        ((((HB.out.trans (hb1.mono HB.out.size)).setCell (p := ⟨w.heap.size, k * 4, none⟩) (Nat.le_refl _) _).setCell (p := ⟨w.heap.size, k * 4 + 1, none⟩) (Nat.le_refl _) _).setCell (p := ⟨w.heap.size, k * 4 + 2, none⟩) (Nat.le_refl _) _).setCell (p := ⟨w.heap.size, k * 4 + 3, none⟩) (Nat.le_refl _) _
      have HO2 := Lib.hid ho2
      have HBB := Lib.hid hbb
      clear hfr ho1 ho2 hbb hlN HO HB hb1
      go_wp2_with fail
      go_roundw
      case rel => exact ⟨k + 1, by omega, by go_num, HO2.out, HBB.out⟩
      case measure => simp [intOf]; omega
    · obtain rfl : k = N := by omega
      clear hown hbw
      go_wp2_with fail
      go_ret
      have hlN := HN.out
      refine ⟨w.heap.size, Nat.le_refl _, by rw [hlN]; rfl, ⟨?_, rfl⟩, HB.out⟩
      have := HO.out
      rw [← hlN, flat4To_end] at this
      exact this

set_option maxHeartbeats 2000000 in
/-- Two rows of the same are told equal. -/
theorem eqRowS_same (w : World) (B1 B2 m cap1 cap2 : Nat) (a1 a2 : Option Addr) (rs : List Cd) (h1 : Cds w B1 a1 m cap1 rs) (h2 : Cds w B2 a2 m cap2 rs) :
    Calls Try.prog 12 #[.slice a1 m cap1, .slice a2 m cap2] w fun e w' => e = .returned (.bool true) ∧ Below w.heap.size w w' := by
  obtain ⟨hc1, hm1⟩ := h1.cap
  obtain ⟨hc2, hm2⟩ := h2.cap
  unfold maxLen at hm1 hm2
  have H1 := Lib.hid h1
  have H2 := Lib.hid h2
  clear h1 h2
  go_enter Try.func12, Try.ntmps12
  go_wp2_with fail
  go_loopw [5] (fun t wr => ∃ k : Nat, k ≤ m ∧ t = .int .i64 k ∧ Below w.heap.size w wr)
    (fun t _ => m - (intOf t).toNat)
  case atStart => exact ⟨0, Nat.zero_le _, rfl, Below.refl _ _⟩
  case round =>
    obtain ⟨k, hk, rfl, hbw⟩ := hrel
    have HB := Lib.hid hbw
    by_cases hlt : k < m
    · obtain ⟨g1, rfl, -, a0, a1, a2, a3⟩ := (H1.out.below hbw).at k hlt
      obtain ⟨g2, rfl, -, b0, b1, b2, b3⟩ := (H2.out.below hbw).at k hlt
      generalize (cd rs k).1 = px at *
      generalize (cd rs k).2.1 = py at *
      generalize (cd rs k).2.2.1 = pz at *
      generalize (cd rs k).2.2.2 = pu at *
      clear hbw
      go_wp2_with fail
      have hn1 := Since.nonempty wr
      have hz := HB.out.size
      have sa0 := fun (x : Since wr) => (x.cell g1 (k * 4) (cell_block_lt a0)).trans a0
      have sa1 := fun (x : Since wr) => (x.cell g1 (k * 4 + 1) (cell_block_lt a1)).trans a1
      have sa2 := fun (x : Since wr) => (x.cell g1 (k * 4 + 2) (cell_block_lt a2)).trans a2
      have sa3 := fun (x : Since wr) => (x.cell g1 (k * 4 + 3) (cell_block_lt a3)).trans a3
      have sb0 := fun (x : Since wr) => (x.cell g2 (k * 4) (cell_block_lt b0)).trans b0
      have sb1 := fun (x : Since wr) => (x.cell g2 (k * 4 + 1) (cell_block_lt b1)).trans b1
      have sb2 := fun (x : Since wr) => (x.cell g2 (k * 4 + 2) (cell_block_lt b2)).trans b2
      have sb3 := fun (x : Since wr) => (x.cell g2 (k * 4 + 3) (cell_block_lt b3)).trans b3
      refine wp_region_since (by kernel_rfl) (by kernel_rfl) ?_
      repeat (go_big_quiet_step (first
        | (go_at_call 27; exact Since.call (eqRow_same _ _ _ _ _))))
      refine wpQuiet_nil ?_
      rintro w2 ⟨⟨_, hb2⟩, rfl⟩
      have HB2 := Lib.hid (HB.out.trans (hb2.mono hz))
      clear sa0 sa1 sa2 sa3 sb0 sb1 sb2 sb3 hb2 a0 a1 a2 a3 b0 b1 b2 b3
      go_wp2_with fail
      go_roundw
      case rel => exact ⟨k + 1, by omega, by go_num, HB2.out⟩
      case measure => simp [intOf]; omega
    · obtain rfl : k = m := by omega
      clear hbw
      go_wp2_with fail
      go_ret
      exact ⟨rfl, HB.out⟩
end Go.Proofs.Ytidmhpeaehmmhab
