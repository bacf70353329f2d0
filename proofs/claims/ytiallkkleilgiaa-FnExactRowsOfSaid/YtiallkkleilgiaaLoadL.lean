/- Loads in the laws: rows of loads as flat cells; loads as they come in, their size, their copy, the comparison of loads. -/
import Derived.Test.YtiallkkleilgiaaLoadP
import Derived.Test.YtiallkkleilgiaaArchL
import Derived.Deep.Strs
namespace Go.Proofs.Ytiallkkleilgiaa
set_option maxRecDepth 100000
open Go.ChangeShapes Go.WideShapes Go.ChangeAt Go.RowKit Go.Joins Go.Deep

/-- The cells of loads. -/
def flatL (ls : List Ld) : List Value := ls.flatMap fun l => [.int .i64 l.1, .int .i64 l.2.1, .int .i64 l.2.2]
theorem flatL_cons (l : Ld) (ls : List Ld) : flatL (l :: ls) = .int .i64 l.1 :: .int .i64 l.2.1 :: .int .i64 l.2.2 :: flatL ls := rfl
theorem flatL_append (a b : List Ld) : flatL (a ++ b) = flatL a ++ flatL b := by unfold flatL; rw [List.flatMap_append]
theorem flatL_length (ls : List Ld) : (flatL ls).length = ls.length * 3 := by
  induction ls with
  | nil => rfl
  | cons l ls ih => rw [flatL_cons]; simp [ih]; omega
theorem flatL_at (ls : List Ld) (i : Nat) (h : i < ls.length) :
    (flatL ls)[i * 3]? = some (.int .i64 (ld ls i).1) ∧ (flatL ls)[i * 3 + 1]? = some (.int .i64 (ld ls i).2.1) ∧ (flatL ls)[i * 3 + 2]? = some (.int .i64 (ld ls i).2.2) := by
  induction ls generalizing i with
  | nil => simp at h
  | cons l ls ih =>
    cases i with
    | zero => exact ⟨rfl, rfl, rfl⟩
    | succ i =>
      have := ih i (by simpa using h)
      rw [flatL_cons, show (i + 1) * 3 = i * 3 + 1 + 1 + 1 by omega]
      simpa [ld] using this
theorem flatL_set (ls : List Ld) (i : Nat) (x y z : Int) (h : i < ls.length) : (((flatL ls).set (i * 3) (.int .i64 x)).set (i * 3 + 1) (.int .i64 y)).set (i * 3 + 2) (.int .i64 z) = flatL (ls.set i (x, y, z)) := by
  induction ls generalizing i with
  | nil => simp at h
  | cons l ls ih =>
    cases i with
    | zero => rfl
    | succ i =>
      have := ih i (by simpa using h)
      rw [flatL_cons, show (i + 1) * 3 = i * 3 + 1 + 1 + 1 by omega]
      simp only [List.set_cons_succ]
      rw [flatL_cons, this]

/-- A slice of loads in a row of the program's own. -/
def LRow (w : World) (B : Nat) (v : Value) (ls : List Ld) : Prop := w.ownsRow B 75 3 v ls.length (flatL ls)
/-- A row at the head of block g. -/
def LRowAt (w : World) (B g cap : Nat) (ls : List Ld) : Prop := LRow w B (.slice (some ⟨g, 0, none⟩) ls.length cap) ls
theorem LRowAt.lt {w : World} {B g cap : Nat} {ls : List Ld} (h : LRowAt w B g cap ls) : B ≤ g ∧ g < w.heap.size ∧ ls.length ≤ cap ∧ cap ≤ maxLen := by
  rcases h.2 with ⟨h1, -⟩ | ⟨g', cap', cur, h1, hB, hg, hc, hm, -⟩
  · simp at h1
  · simp at h1; obtain ⟨rfl, rfl⟩ := h1; exact ⟨hB, by have := (Array.getElem?_eq_some_iff.1 hg).1; exact this, hc, hm⟩
theorem LRowAt.cells {w : World} {B g cap : Nat} {ls : List Ld} (h : LRowAt w B g cap ls) (i : Nat) (hi : i < ls.length) :
    w.cell? ⟨g, i * 3, none⟩ = some (.int .i64 (ld ls i).1) ∧ w.cell? ⟨g, i * 3 + 1, none⟩ = some (.int .i64 (ld ls i).2.1) ∧ w.cell? ⟨g, i * 3 + 2, none⟩ = some (.int .i64 (ld ls i).2.2) := by
  rw [World.ownsRow.cellAt h (i * 3) (by omega), World.ownsRow.cellAt h (i * 3 + 1) (by omega), World.ownsRow.cellAt h (i * 3 + 2) (by omega)]
  exact flatL_at ls i hi
theorem LRow.below {w w' : World} {B : Nat} {v : Value} {ls : List Ld} (h : LRow w B v ls) (hb : Below w.heap.size w w') : LRow w' B v ls := owns_below h hb
theorem LRow.base {w : World} {B B' : Nat} {v : Value} {ls : List Ld} (h : LRow w B v ls) (hb : B' ≤ B) : LRow w B' v ls := owns_base h hb
theorem LRow.alloc {w : World} {B : Nat} {v : Value} {ls : List Ld} (h : LRow w B v ls) (o : Obj) : LRow (w.alloc o) B v ls := World.ownsRow.alloc h o
theorem LRowAt.row {w : World} {B g cap : Nat} {ls : List Ld} (h : LRowAt w B g cap ls) : LRow w B (.slice (some ⟨g, 0, none⟩) ls.length cap) ls := h
theorem LRow.nil (w : World) (B : Nat) : LRow w B (.slice none 0 0) [] := World.ownsRow_nil w B _ _
theorem LRow.cases' {w : World} {B : Nat} {v : Value} {ls : List Ld} (h : LRow w B v ls) :
    (v = .slice none 0 0 ∧ ls = []) ∨ ∃ g cap, v = .slice (some ⟨g, 0, none⟩) ls.length cap ∧ LRowAt w B g cap ls ∧ B ≤ g ∧ g < w.heap.size ∧ ls.length ≤ cap ∧ cap ≤ maxLen := by
  have hh := h
  rcases h.2 with ⟨rfl, hz⟩ | ⟨g, cap, cur, rfl, hB, hg, hc, hm, -⟩
  · exact .inl ⟨rfl, List.length_eq_zero_iff.1 hz⟩
  · exact .inr ⟨g, cap, rfl, hh, hB, by have := (Array.getElem?_eq_some_iff.1 hg).1; exact this, hc, hm⟩
theorem lrow_slice {w : World} {B : Nat} {v : Value} {ls : List Ld} (h : LRow w B v ls) : ∃ a cap, v = .slice a ls.length cap ∧ ls.length ≤ cap ∧ cap ≤ maxLen := by
  rcases h.cases' with ⟨rfl, rfl⟩ | ⟨g, cap, rfl, -, -, -, h1, h2⟩
  · exact ⟨none, 0, rfl, Nat.le_refl _, Nat.zero_le _⟩
  · exact ⟨_, cap, rfl, h1, h2⟩
theorem LRow.after {w w' : World} {B n : Nat} {v : Value} {ls : List Ld} (h : LRow w B v ls) (hb : Below (w.drewN n).heap.size (w.drewN n) w') : LRow w' B v ls := owns_below (w := w.drewN n) h hb
/-- Loads as a call is handed them: nil, or a row of the program's own. -/
def Lds (w : World) (B : Nat) (a : Option Addr) (m cap : Nat) (ls : List Ld) : Prop := LRow w B (.slice a m cap) ls ∧ ls.length = m
theorem Lds.below {w w' : World} {B m cap : Nat} {a : Option Addr} {ls : List Ld} (h : Lds w B a m cap ls) (hb : Below w.heap.size w w') : Lds w' B a m cap ls := ⟨h.1.below hb, h.2⟩
theorem Lds.alloc {w : World} {B m cap : Nat} {a : Option Addr} {ls : List Ld} (h : Lds w B a m cap ls) (o : Obj) : Lds (w.alloc o) B a m cap ls := ⟨h.1.alloc o, h.2⟩
theorem Lds.base {w : World} {B B' m cap : Nat} {a : Option Addr} {ls : List Ld} (h : Lds w B a m cap ls) (hb : B' ≤ B) : Lds w B' a m cap ls := ⟨h.1.base hb, h.2⟩
theorem Lds.none (w : World) (B : Nat) : Lds w B none 0 0 [] := ⟨LRow.nil w B, rfl⟩
theorem Lds.cap {w : World} {B m cap : Nat} {a : Option Addr} {ls : List Ld} (h : Lds w B a m cap ls) : m ≤ cap ∧ cap ≤ maxLen := by
  obtain ⟨a', cap', he, h1, h2⟩ := lrow_slice h.1
  simp only [Value.slice.injEq] at he
  obtain ⟨-, e1, rfl⟩ := he
  exact ⟨by omega, h2⟩
theorem Lds.at {w : World} {B m cap : Nat} {a : Option Addr} {ls : List Ld} (h : Lds w B a m cap ls) (i : Nat) (hi : i < m) :
    ∃ g, a = some ⟨g, 0, Option.none⟩ ∧ B ≤ g ∧ w.cell? ⟨g, i * 3, Option.none⟩ = some (.int .i64 (ld ls i).1) ∧ w.cell? ⟨g, i * 3 + 1, Option.none⟩ = some (.int .i64 (ld ls i).2.1) ∧ w.cell? ⟨g, i * 3 + 2, Option.none⟩ = some (.int .i64 (ld ls i).2.2) := by
  have hl := h.2
  rcases h.1.cases' with ⟨-, rfl⟩ | ⟨g, cap', he, hr, hB, -⟩
  · simp at hl; omega
  · simp only [Value.slice.injEq] at he
    obtain ⟨rfl, -, -⟩ := he
    exact ⟨g, rfl, hB, hr.cells i (by omega)⟩

/-- Loads that came in: whatever address; each three ints. -/
def InLds (w : World) (a : Option Addr) (n cap : Nat) (ls : List Ld) : Prop :=
  ls.length = n ∧ n ≤ cap ∧ cap ≤ maxLen ∧
  ((a = none ∧ n = 0 ∧ cap = 0) ∨ ∃ x, a = some x ∧ ∀ i, i < n → w.cell? (x.add (i * 3)) = some (.int .i64 (ld ls i).1) ∧ w.cell? (x.add (i * 3 + 1)) = some (.int .i64 (ld ls i).2.1) ∧ w.cell? (x.add (i * 3 + 2)) = some (.int .i64 (ld ls i).2.2))
theorem InLds.below {w w' : World} {a : Option Addr} {n cap : Nat} {ls : List Ld} (h : InLds w a n cap ls) (hb : Below w.heap.size w w') : InLds w' a n cap ls := by
  obtain ⟨h1, h2, h3, h5⟩ := h
  refine ⟨h1, h2, h3, h5.imp id ?_⟩
  rintro ⟨x, rfl, hx⟩
  exact ⟨x, rfl, fun i hi => ⟨(hb.cell (cell_block_lt (hx i hi).1)).trans (hx i hi).1, (hb.cell (cell_block_lt (hx i hi).2.1)).trans (hx i hi).2.1, (hb.cell (cell_block_lt (hx i hi).2.2)).trans (hx i hi).2.2⟩⟩
theorem lds_of {n : Nat} {q : Nat → Ld → Prop} (h : ∀ i, i < n → ∃ p, q i p) : ∃ ls : List Ld, ls.length = n ∧ ∀ i, i < n → q i (ld ls i) := by
  induction n with
  | zero => exact ⟨[], rfl, fun i hi => absurd hi (Nat.not_lt_zero i)⟩
  | succ n ih =>
    obtain ⟨ls, hl, hq⟩ := ih fun i hi => h i (by omega)
    obtain ⟨p, hp⟩ := h n (by omega)
    refine ⟨ls ++ [p], by simp [hl], fun i hi => ?_⟩
    by_cases he : i < n
    · rw [ld_app1 (by omega)]; exact hq i he
    · obtain rfl : i = n := by omega
      rw [← hl, ld_app2, hl]; exact hp

/-- Three cells that read as a load are three ints. -/
theorem load_cells {H : Type} {enc : TypeId × Value → H} {w : World} {base fuel : Nat} {spare : Nat → Bool} {held : Bool} {c0 c1 c2 : Value} {d : DataW H × List MemPlace}
    (hf : DataW.trod enc Try.prog w base spare held fuel 77 [c0, c1, c2] = some d) : ∃ x y z : Int, c0 = .int .i64 x ∧ c1 = .int .i64 y ∧ c2 = .int .i64 z := by
  obtain ⟨y0, y1, y2, n, hx, -, h0, h1, h2⟩ := trod_struct3 Try.underlying77 hf
  have ci : Try.prog.cellsOf 3 = 1 := by kernel_rfl
  simp only [ci, List.drop_zero, List.take_succ_cons, List.take_zero, List.drop_succ_cons] at h0 h1 h2
  obtain ⟨a, e0, -, wa⟩ := DataW.trod_int Try.underlying3 h0
  obtain ⟨b, e1, -, wb⟩ := DataW.trod_int Try.underlying3 h1
  obtain ⟨c, e2, -, wc⟩ := DataW.trod_int Try.underlying3 h2
  simp at e0 e1 e2
  exact ⟨a, b, c, e0, e1, e2⟩

/-- A list of loads that came in. -/
theorem open_loads {H : Type} {enc : TypeId × Value → H} {w : World} {r : Reach} {b0 base : Nat} {spare : Nat → Bool} {held : Bool} {v : Value} {d : DataW H} {p : List MemPlace}
    (hv : Value.okWide Try.prog w r b0 37 v) (h : DataW.Trod enc Try.prog w base spare held 37 v d p) :
    ∃ (a : Option Addr) (n cap : Nat) (ls : List Ld), v = .slice a n cap ∧ InLds w a n cap ls := by
  obtain ⟨a, len, cap, rfl⟩ := okWide_slice Try.underlying37 hv
  obtain ⟨fuel, hf⟩ := h
  have hf1 : DataW.trod enc Try.prog w base spare held fuel 37 [.slice a len cap] = some (d, p) := by simpa [Value.cells] using hf
  have cj : Try.prog.cellsOf 77 = 3 := by kernel_rfl
  rcases open_slice Try.underlying37 hf1 with ⟨hc, _⟩ | ⟨ad, len', cap', m, fu, D, Pl, hc, _, hl, hm, hmm, _, hcell⟩
  · simp at hc
    obtain ⟨rfl, rfl, rfl⟩ := hc
    exact ⟨none, 0, 0, [], rfl, rfl, Nat.le_refl _, Nat.zero_le _, .inl ⟨rfl, rfl, rfl⟩⟩
  · simp at hc
    obtain ⟨rfl, rfl, rfl⟩ := hc
    have hlm : len ≤ m := by rw [hmm]; split <;> omega
    rw [cj] at hcell
    obtain ⟨ls, hcl, hq⟩ := lds_of (n := len) (q := fun i p => w.cell? (ad.add (i * 3)) = some (.int .i64 p.1) ∧ w.cell? (ad.add (i * 3 + 1)) = some (.int .i64 p.2.1) ∧ w.cell? (ad.add (i * 3 + 2)) = some (.int .i64 p.2.2)) (fun i hi => by
      obtain ⟨cs', h1, h2⟩ := hcell i (by omega)
      obtain ⟨_, hlen', hat⟩ := World.cells?_some h1
      match cs', hlen' with
      | [v0, v1, v2], _ =>
        obtain ⟨x, y, z, rfl, rfl, rfl⟩ := load_cells h2
        have e0 := hat 0 (by omega)
        have e1 := hat 1 (by omega)
        have e2 := hat 2 (by omega)
        rw [Go.Deep.add_add] at e0 e1 e2
        exact ⟨(x, y, z), by simpa using e0, by simpa using e1, by simpa using e2⟩)
    exact ⟨some ad, len, cap, ls, rfl, hcl, hl, hm, .inr ⟨ad, rfl, fun i hi => hq i hi⟩⟩

/-- What szLoadS answers, of whatever is left. -/
def szL (n : Nat) (L : Int) : Int := if (n : Int) ≤ L then L - n else -1
theorem szLoadS (a : Option Addr) (n cap : Nat) (L : Int) (w : World) (hn : n ≤ maxLen) (hL : 0 ≤ L ∧ L ≤ 1048576) :
    Calls Try.prog 15 #[.slice a n cap, .int .i64 L] w fun e w' => e = .returned (.int .i64 (szL n L)) ∧ w = w' := by
  unfold maxLen at hn
  obtain ⟨hL0, hL1⟩ := hL
  by_cases h : (n : Int) ≤ L
  · go_enter Try.func15, Try.ntmps15
    go_wp2
    go_ret
    exact ⟨ret_i64 (by unfold szL; rw [if_pos h]), rfl⟩
  · go_enter Try.func15, Try.ntmps15
    go_wp2
    go_ret
    exact ⟨ret_i64 (by unfold szL; rw [if_neg (by omega)]), rfl⟩

/-- Loads as far as they have been copied. -/
def flatLTo (ls : List Ld) (k : Nat) : List Value := flatL (ls.take k) ++ List.replicate ((ls.length - k) * 3) (.int .i64 0)
theorem flatLTo_zero (ls : List Ld) : flatLTo ls 0 = List.replicate (ls.length * 3) (.int .i64 0) := by simp [flatLTo, flatL]
theorem flatLTo_end (ls : List Ld) : flatLTo ls ls.length = flatL ls := by simp [flatLTo]
theorem flatLTo_next (ls : List Ld) (k : Nat) (h : k < ls.length) : (((flatLTo ls k).set (k * 3) (.int .i64 (ld ls k).1)).set (k * 3 + 1) (.int .i64 (ld ls k).2.1)).set (k * 3 + 2) (.int .i64 (ld ls k).2.2) = flatLTo ls (k + 1) := by
  have hl : (flatL (ls.take k)).length = k * 3 := by rw [flatL_length, List.length_take]; omega
  unfold flatLTo
  rw [show (ls.length - k) * 3 = (ls.length - (k + 1)) * 3 + 1 + 1 + 1 by omega]
  simp only [List.replicate_succ]
  rw [List.set_append_right _ _ (by omega), hl, Nat.sub_self, List.set_cons_zero, List.set_append_right _ _ (by omega), hl, show k * 3 + 1 - k * 3 = 1 by omega, List.set_cons_succ, List.set_cons_zero,
    List.set_append_right _ _ (by omega), hl, show k * 3 + 2 - k * 3 = 2 by omega, List.set_cons_succ, List.set_cons_succ, List.set_cons_zero]
  rw [List.take_succ_eq_append_getElem h, flatL_append, List.append_assoc, ld_get h]
  rfl
theorem flatLTo_at (ls : List Ld) (k i : Nat) (h : k < ls.length) (hi : i < 3) : (flatLTo ls k)[k * 3 + i]? = some (.int .i64 0) := by
  have hl : (flatL (ls.take k)).length = k * 3 := by rw [flatL_length, List.length_take]; omega
  unfold flatLTo
  rw [List.getElem?_append_right (by omega), hl, List.getElem?_replicate, if_pos (by omega)]
theorem made_zeroL (n : Nat) : (madeCells (Value.agg #[.int .i64 0, .int .i64 0, .int .i64 0]).cells n).toList = List.replicate n (Value.int .i64 0) := by
  unfold madeCells
  rw [Array.toList_map]
  refine List.ext_getElem (by simp) fun i h1 h2 => ?_
  rw [List.getElem_map, List.getElem_replicate]
  have : i % 3 = 0 ∨ i % 3 = 1 ∨ i % 3 = 2 := by omega
  simp [Value.cells]
  rcases this with h | h | h <;> simp [h]
theorem Try.infoLn : (Try.prog.info? 75).map (fun i => (i.zero, i.size, i.bytes)) = some (some (.agg #[.int .i64 0, .int .i64 0, .int .i64 0]), 3, 24) := by kernel_rfl

set_option maxHeartbeats 400000 in
theorem toLoad (x y z : Int) (w : World) :
    Calls Try.prog 43 #[.agg #[.int .i64 x, .int .i64 y, .int .i64 z]] w fun e w' => e = .returned (.agg #[.int .i64 x, .int .i64 y, .int .i64 z]) ∧ Below w.heap.size w w' := by
  go_enter Try.func43, Try.ntmps43
  go_wp2
  refine bodyPost_ret (v := .agg #[.int .i64 x, .int .i64 y, .int .i64 z]) (by simp [results, Try.results43, go_sem]) rfl ⟨rfl, ?_⟩
  repeat (first | exact Below.refl _ _ | refine Below.alloc ?_ (by simp <;> omega) _ | refine Below.setCell ?_ (by simp <;> omega) _)

set_option maxHeartbeats 1000000 in
theorem toLoadS (a : Option Addr) (n cap : Nat) (ls : List Ld) (w : World) (h : InLds w a n cap ls) (hn : n ≤ 1048576) :
    Calls Try.prog 18 #[.slice a n cap] w fun e w' => ∃ g, w.heap.size ≤ g ∧ e = .returned (.slice (some ⟨g, 0, none⟩) n n) ∧ Lds w' w.heap.size (some ⟨g, 0, none⟩) n n ls ∧ Below w.heap.size w w' := by
  obtain ⟨i0, hi, hz0, hz1, hz2⟩ := info_parts Try.infoLn
  obtain ⟨hl, hc, hm, hcase⟩ := h
  have hX : ∃ ad : Addr, 0 < n → a = some ad ∧ ∀ i, i < n → w.cell? (ad.add (i * 3)) = some (.int .i64 (ld ls i).1) ∧ w.cell? (ad.add (i * 3 + 1)) = some (.int .i64 (ld ls i).2.1) ∧ w.cell? (ad.add (i * 3 + 2)) = some (.int .i64 (ld ls i).2.2) := by
    rcases hcase with ⟨rfl, h0, -⟩ | ⟨x, rfl, hx⟩
    · exact ⟨⟨0, 0, none⟩, fun h => absurd h (by omega)⟩
    · exact ⟨x, fun _ => ⟨rfl, hx⟩⟩
  clear hcase
  unfold maxLen at hm
  subst hl
  go_enter Try.func18, Try.ntmps18
  go_wp2_with (at_make; refine wpList_make_full _ rfl _ _ 46 rfl w.heap.size 75 i0 (.agg #[.int .i64 0, .int .i64 0, .int .i64 0]) 3 Try.underlying46 hi hz0 hz1 .i64 .i64 _ _ ls.length rfl rfl rfl rfl (by rw [hz2]; omega) (by unfold maxLen; omega) (Nat.le_refl _) ?_; intro w0 hown0 hgrow0)
  rw [made_zeroL, ← flatLTo_zero] at hown0
  have hb0 : Below w.heap.size w w0 := (Below.refl _ _).grown hgrow0 (Nat.le_refl _) (fun k hk => by cases hk)
  clear hgrow0
  obtain ⟨ad, hX⟩ := hX
  have HX := Lib.hid hX
  clear hX
  generalize hN : ls.length = N at *
  have HN := Lib.hid hN
  clear hN
  go_loopw [4] (fun t wr => ∃ k : Nat, k ≤ N ∧ t = .int .i64 k ∧ wr.ownsRow w.heap.size 75 3 (.slice (some ⟨w.heap.size, 0, none⟩) N N) N (flatLTo ls k) ∧ Below w.heap.size w wr)
    (fun t _ => N - (intOf t).toNat)
  case atStart => exact ⟨0, Nat.zero_le _, rfl, hown0, hb0⟩
  case round =>
    obtain ⟨k, hk, rfl, hown, hbw⟩ := hrel
    have HO := Lib.hid hown
    have HB := Lib.hid hbw
    by_cases hlt : k < N
    · obtain ⟨rfl, hcell⟩ := HX.out (by omega)
      obtain ⟨q0, q1, q2⟩ := hcell k hlt
      have hadlt := cell_block_lt q0
      rw [adb] at hadlt
      have r0 : wr.cell? (ad.add (k * 3)) = some (.int .i64 (ld ls k).1) := by rw [hbw.cell (by rw [adb]; exact hadlt)]; exact q0
      have r1 : wr.cell? ⟨(ad.add (k * 3)).block, (ad.add (k * 3)).off + 1, none⟩ = some (.int .i64 (ld ls k).2.1) := by rw [ad1, Go.Deep.add_add, hbw.cell (by rw [adb]; exact hadlt)]; exact q1
      have r2 : wr.cell? ⟨(ad.add (k * 3)).block, (ad.add (k * 3)).off + 2, none⟩ = some (.int .i64 (ld ls k).2.2) := by rw [show (⟨(ad.add (k * 3)).block, (ad.add (k * 3)).off + 2, none⟩ : Addr) = (ad.add (k * 3)).add 2 from rfl, Go.Deep.add_add, hbw.cell (by rw [adb]; exact hadlt)]; exact q2
      clear q0 q1 q2 hcell HX hown hbw
      have HP := Lib.hid hlt
      obtain ⟨px, hpx⟩ : ∃ px, px = (ld ls k).1 := ⟨_, rfl⟩
      obtain ⟨py, hpy⟩ : ∃ py, py = (ld ls k).2.1 := ⟨_, rfl⟩
      obtain ⟨pz, hpz⟩ : ∃ pz, pz = (ld ls k).2.2 := ⟨_, rfl⟩
      rw [← hpx] at r0
      rw [← hpy] at r1
      rw [← hpz] at r2
      have HPX := Lib.hid hpx
      have HPY := Lib.hid hpy
      have HPZ := Lib.hid hpz
      clear hpx hpy hpz
      go_wp2_with fail
      refine (toLoad _ _ _ _).mono ?_
      rintro e w1 ⟨rfl, hb1⟩
      have ho1 := owns_below HO.out hb1
      have hlN := HN.out
      have c0 : w1.cell? ⟨w.heap.size, k * 3, none⟩ = some (.int .i64 0) := (World.ownsRow.cellAt ho1 (k * 3) (by omega)).trans (flatLTo_at ls k 0 (by omega) (by omega))
      have c1 : w1.cell? ⟨w.heap.size, k * 3 + 1, none⟩ = some (.int .i64 0) := (World.ownsRow.cellAt ho1 (k * 3 + 1) (by omega)).trans (flatLTo_at ls k 1 (by omega) (by omega))
      have c2 : w1.cell? ⟨w.heap.size, k * 3 + 2, none⟩ = some (.int .i64 0) := (World.ownsRow.cellAt ho1 (k * 3 + 2) (by omega)).trans (flatLTo_at ls k 2 (by omega) (by omega))
      have hfr := fun j => World.ownsRow.frozenAt ho1 j
      have f0 := hfr (k * 3)
      have f1 := hfr (k * 3 + 1)
      have f2 := hfr (k * 3 + 2)
      have ho2 := (World.ownsRow.stored (World.ownsRow.stored (World.ownsRow.stored ho1 (k * 3) (.int .i64 px)).1 (k * 3 + 1) (.int .i64 py)).1 (k * 3 + 2) (.int .i64 pz)).1
      rw [HPX.out, HPY.out, HPZ.out, flatLTo_next ls k (by omega), ← HPX.out, ← HPY.out, ← HPZ.out] at ho2
      have hbb : Below w.heap.size w (((w1.setCell ⟨w.heap.size, k * 3, none⟩ (.int .i64 px)).setCell ⟨w.heap.size, k * 3 + 1, none⟩ (.int .i64 py)).setCell ⟨w.heap.size, k * 3 + 2, none⟩ (.int .i64 pz)) :=
        (((HB.out.trans (hb1.mono HB.out.size)).setCell (p := ⟨w.heap.size, k * 3, none⟩) (Nat.le_refl _) _).setCell (p := ⟨w.heap.size, k * 3 + 1, none⟩) (Nat.le_refl _) _).setCell (p := ⟨w.heap.size, k * 3 + 2, none⟩) (Nat.le_refl _) _
      have HO2 := Lib.hid ho2
      have HBB := Lib.hid hbb
      clear hfr ho1 ho2 hbb hlN HO HB hb1
      go_wp2_with fail
      go_roundw
      case rel => exact ⟨k + 1, by omega, by go_num, HO2.out, HBB.out⟩
      case measure => simp [intOf]; omega
    · obtain rfl : k = N := by omega
      clear hown hbw
      go_wp2_with fail
      go_ret
      have hlN := HN.out
      refine ⟨w.heap.size, Nat.le_refl _, by rw [hlN]; rfl, ⟨?_, rfl⟩, HB.out⟩
      have := HO.out
      rw [← hlN, flatLTo_end] at this
      exact this

set_option maxHeartbeats 400000 in
theorem eqLoad_same (x y z : Int) (w : World) :
    Calls Try.prog 49 #[.agg #[.int .i64 x, .int .i64 y, .int .i64 z], .agg #[.int .i64 x, .int .i64 y, .int .i64 z]] w fun e w' => e = .returned (.bool true) ∧ Below w.heap.size w w' := by
  have e0 : (x != x) = false := by simp
  have e1 : (y != y) = false := by simp
  have e2 : (z != z) = false := by simp
  go_enter Try.func49, Try.ntmps49
  go_wp2_with fail
  go_ret
  refine ⟨rfl, ?_⟩
  repeat (first | exact Below.refl _ _ | refine Below.alloc ?_ (by simp <;> omega) _)

set_option maxHeartbeats 2000000 in
/-- Two rows of the same loads are told equal. -/
theorem eqLoadS_same (w : World) (B1 B2 m cap1 cap2 : Nat) (a1 a2 : Option Addr) (ls : List Ld) (h1 : Lds w B1 a1 m cap1 ls) (h2 : Lds w B2 a2 m cap2 ls) :
    Calls Try.prog 22 #[.slice a1 m cap1, .slice a2 m cap2] w fun e w' => e = .returned (.bool true) ∧ Below w.heap.size w w' := by
  obtain ⟨hc1, hm1⟩ := h1.cap
  obtain ⟨hc2, hm2⟩ := h2.cap
  unfold maxLen at hm1 hm2
  have H1 := Lib.hid h1
  have H2 := Lib.hid h2
  clear h1 h2
  go_enter Try.func22, Try.ntmps22
  go_wp2_with fail
  go_loopw [5] (fun t wr => ∃ k : Nat, k ≤ m ∧ t = .int .i64 k ∧ Below w.heap.size w wr)
    (fun t _ => m - (intOf t).toNat)
  case atStart => exact ⟨0, Nat.zero_le _, rfl, Below.refl _ _⟩
  case round =>
    obtain ⟨k, hk, rfl, hbw⟩ := hrel
    have HB := Lib.hid hbw
    by_cases hlt : k < m
    · obtain ⟨g1, rfl, -, a0, a1, a2⟩ := (H1.out.below hbw).at k hlt
      obtain ⟨g2, rfl, -, b0, b1, b2⟩ := (H2.out.below hbw).at k hlt
      generalize (ld ls k).1 = px at *
      generalize (ld ls k).2.1 = py at *
      generalize (ld ls k).2.2 = pz at *
      clear hbw
      go_wp2_with fail
      have hn1 := Since.nonempty wr
      have hz := HB.out.size
      have sa0 := fun (x : Since wr) => (x.cell g1 (k * 3) (cell_block_lt a0)).trans a0
      have sa1 := fun (x : Since wr) => (x.cell g1 (k * 3 + 1) (cell_block_lt a1)).trans a1
      have sa2 := fun (x : Since wr) => (x.cell g1 (k * 3 + 2) (cell_block_lt a2)).trans a2
      have sb0 := fun (x : Since wr) => (x.cell g2 (k * 3) (cell_block_lt b0)).trans b0
      have sb1 := fun (x : Since wr) => (x.cell g2 (k * 3 + 1) (cell_block_lt b1)).trans b1
      have sb2 := fun (x : Since wr) => (x.cell g2 (k * 3 + 2) (cell_block_lt b2)).trans b2
      refine wp_region_since (by kernel_rfl) (by kernel_rfl) ?_
      repeat (go_big_quiet_step (first
        | (go_at_call 49; exact Since.call (eqLoad_same _ _ _ _))))
      refine wpQuiet_nil ?_
      rintro w2 ⟨⟨_, hb2⟩, rfl⟩
      have HB2 := Lib.hid (HB.out.trans (hb2.mono hz))
      clear sa0 sa1 sa2 sb0 sb1 sb2 hb2 a0 a1 a2 b0 b1 b2
      go_wp2_with fail
      go_roundw
      case rel => exact ⟨k + 1, by omega, by go_num, HB2.out⟩
      case measure => simp [intOf]; omega
    · obtain rfl : k = m := by omega
      clear hbw
      go_wp2_with fail
      go_ret
      exact ⟨rfl, HB.out⟩
end Go.Proofs.Ytiallkkleilgiaa
