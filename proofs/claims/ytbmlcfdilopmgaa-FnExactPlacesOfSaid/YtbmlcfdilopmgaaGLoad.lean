/- Loads in the laws: rows of loads as flat cells; loads as they come in, their size, their copy, the comparison of loads; The model's LoadsOk; The model's l07Left, WeightLeft, MomentLeft, TotalOf, with loads; Marks in a row of loads: what is written is read again. -/
import Derived.Test.YtbmlcfdilopmgaaGPlain
import Derived.Test.YtbmlcfdilopmgaaGArch
import Derived.Deep.Strs
import Derived.Test.YtbmlcfdilopmgaaGBuilt
import Derived.Test.YtbmlcfdilopmgaaGWeight
import Derived.Deep.AppendLies

/- Loads in the laws: rows of loads as flat cells; loads as they come in, their size, their copy, the comparison of loads. -/
namespace Go.Proofs.Ytbmlcfdilopmgaa
set_option maxRecDepth 100000
open Go.ChangeShapes Go.WideShapes Go.ChangeAt Go.RowKit Go.Joins Go.Deep

/-- The cells of loads. -/
def flatL (ls : List Ld) : List Value := ls.flatMap fun l => [.int .i64 l.1, .int .i64 l.2.1, .int .i64 l.2.2]
theorem flatL_cons (l : Ld) (ls : List Ld) : flatL (l :: ls) = .int .i64 l.1 :: .int .i64 l.2.1 :: .int .i64 l.2.2 :: flatL ls := rfl
theorem flatL_append (a b : List Ld) : flatL (a ++ b) = flatL a ++ flatL b := by unfold flatL; rw [List.flatMap_append]
theorem flatL_length (ls : List Ld) : (flatL ls).length = ls.length * 3 := by
  induction ls with
  | nil => rfl
  | cons l ls ih => rw [flatL_cons]; simp [ih]; omega
theorem flatL_at (ls : List Ld) (i : Nat) (h : i < ls.length) :
    (flatL ls)[i * 3]? = some (.int .i64 (ld ls i).1) ∧ (flatL ls)[i * 3 + 1]? = some (.int .i64 (ld ls i).2.1) ∧ (flatL ls)[i * 3 + 2]? = some (.int .i64 (ld ls i).2.2) := by
  induction ls generalizing i with
  | nil => simp at h
  | cons l ls ih =>
    cases i with
    | zero => exact ⟨rfl, rfl, rfl⟩
    | succ i =>
      have := ih i (by simpa using h)
      rw [flatL_cons, show (i + 1) * 3 = i * 3 + 1 + 1 + 1 by omega]
      simpa [ld] using this
theorem flatL_set (ls : List Ld) (i : Nat) (x y z : Int) (h : i < ls.length) : (((flatL ls).set (i * 3) (.int .i64 x)).set (i * 3 + 1) (.int .i64 y)).set (i * 3 + 2) (.int .i64 z) = flatL (ls.set i (x, y, z)) := by
  induction ls generalizing i with
  | nil => simp at h
  | cons l ls ih =>
    cases i with
    | zero => rfl
    | succ i =>
      have := ih i (by simpa using h)
      rw [flatL_cons, show (i + 1) * 3 = i * 3 + 1 + 1 + 1 by omega]
      simp only [List.set_cons_succ]
      rw [flatL_cons, this]

/-- A slice of loads in a row of the program's own. -/
def LRow (w : World) (B : Nat) (v : Value) (ls : List Ld) : Prop := w.ownsRow B 82 3 v ls.length (flatL ls)
/-- A row at the head of block g. -/
def LRowAt (w : World) (B g cap : Nat) (ls : List Ld) : Prop := LRow w B (.slice (some ⟨g, 0, none⟩) ls.length cap) ls
theorem LRowAt.lt {w : World} {B g cap : Nat} {ls : List Ld} (h : LRowAt w B g cap ls) : B ≤ g ∧ g < w.heap.size ∧ ls.length ≤ cap ∧ cap ≤ maxLen := by
  rcases h.2 with ⟨h1, -⟩ | ⟨g', cap', cur, h1, hB, hg, hc, hm, -⟩
  · simp at h1
  · simp at h1; obtain ⟨rfl, rfl⟩ := h1; exact ⟨hB, by have := (Array.getElem?_eq_some_iff.1 hg).1; exact this, hc, hm⟩
theorem LRowAt.cells {w : World} {B g cap : Nat} {ls : List Ld} (h : LRowAt w B g cap ls) (i : Nat) (hi : i < ls.length) :
    w.cell? ⟨g, i * 3, none⟩ = some (.int .i64 (ld ls i).1) ∧ w.cell? ⟨g, i * 3 + 1, none⟩ = some (.int .i64 (ld ls i).2.1) ∧ w.cell? ⟨g, i * 3 + 2, none⟩ = some (.int .i64 (ld ls i).2.2) := by
  rw [World.ownsRow.cellAt h (i * 3) (by omega), World.ownsRow.cellAt h (i * 3 + 1) (by omega), World.ownsRow.cellAt h (i * 3 + 2) (by omega)]
  exact flatL_at ls i hi
theorem LRow.below {w w' : World} {B : Nat} {v : Value} {ls : List Ld} (h : LRow w B v ls) (hb : Below w.heap.size w w') : LRow w' B v ls := owns_below h hb
theorem LRow.base {w : World} {B B' : Nat} {v : Value} {ls : List Ld} (h : LRow w B v ls) (hb : B' ≤ B) : LRow w B' v ls := owns_base h hb
theorem LRow.alloc {w : World} {B : Nat} {v : Value} {ls : List Ld} (h : LRow w B v ls) (o : Obj) : LRow (w.alloc o) B v ls := World.ownsRow.alloc h o
theorem LRowAt.row {w : World} {B g cap : Nat} {ls : List Ld} (h : LRowAt w B g cap ls) : LRow w B (.slice (some ⟨g, 0, none⟩) ls.length cap) ls := h
theorem LRow.nil (w : World) (B : Nat) : LRow w B (.slice none 0 0) [] := World.ownsRow_nil w B _ _
theorem LRow.cases' {w : World} {B : Nat} {v : Value} {ls : List Ld} (h : LRow w B v ls) :
    (v = .slice none 0 0 ∧ ls = []) ∨ ∃ g cap, v = .slice (some ⟨g, 0, none⟩) ls.length cap ∧ LRowAt w B g cap ls ∧ B ≤ g ∧ g < w.heap.size ∧ ls.length ≤ cap ∧ cap ≤ maxLen := by
  have hh := h
  rcases h.2 with ⟨rfl, hz⟩ | ⟨g, cap, cur, rfl, hB, hg, hc, hm, -⟩
  · exact .inl ⟨rfl, List.length_eq_zero_iff.1 hz⟩
  · exact .inr ⟨g, cap, rfl, hh, hB, by have := (Array.getElem?_eq_some_iff.1 hg).1; exact this, hc, hm⟩
theorem lrow_slice {w : World} {B : Nat} {v : Value} {ls : List Ld} (h : LRow w B v ls) : ∃ a cap, v = .slice a ls.length cap ∧ ls.length ≤ cap ∧ cap ≤ maxLen := by
  rcases h.cases' with ⟨rfl, rfl⟩ | ⟨g, cap, rfl, -, -, -, h1, h2⟩
  · exact ⟨none, 0, rfl, Nat.le_refl _, Nat.zero_le _⟩
  · exact ⟨_, cap, rfl, h1, h2⟩
theorem LRow.after {w w' : World} {B n : Nat} {v : Value} {ls : List Ld} (h : LRow w B v ls) (hb : Below (w.drewN n).heap.size (w.drewN n) w') : LRow w' B v ls := owns_below (w := w.drewN n) h hb
/-- Loads as a call is handed them: nil, or a row of the program's own. -/
def Lds (w : World) (B : Nat) (a : Option Addr) (m cap : Nat) (ls : List Ld) : Prop := LRow w B (.slice a m cap) ls ∧ ls.length = m
theorem Lds.below {w w' : World} {B m cap : Nat} {a : Option Addr} {ls : List Ld} (h : Lds w B a m cap ls) (hb : Below w.heap.size w w') : Lds w' B a m cap ls := ⟨h.1.below hb, h.2⟩
theorem Lds.alloc {w : World} {B m cap : Nat} {a : Option Addr} {ls : List Ld} (h : Lds w B a m cap ls) (o : Obj) : Lds (w.alloc o) B a m cap ls := ⟨h.1.alloc o, h.2⟩
theorem Lds.base {w : World} {B B' m cap : Nat} {a : Option Addr} {ls : List Ld} (h : Lds w B a m cap ls) (hb : B' ≤ B) : Lds w B' a m cap ls := ⟨h.1.base hb, h.2⟩
theorem Lds.none (w : World) (B : Nat) : Lds w B none 0 0 [] := ⟨LRow.nil w B, rfl⟩
theorem Lds.cap {w : World} {B m cap : Nat} {a : Option Addr} {ls : List Ld} (h : Lds w B a m cap ls) : m ≤ cap ∧ cap ≤ maxLen := by
  obtain ⟨a', cap', he, h1, h2⟩ := lrow_slice h.1
  simp only [Value.slice.injEq] at he
  obtain ⟨-, e1, rfl⟩ := he
  exact ⟨by omega, h2⟩
theorem Lds.at {w : World} {B m cap : Nat} {a : Option Addr} {ls : List Ld} (h : Lds w B a m cap ls) (i : Nat) (hi : i < m) :
    ∃ g, a = some ⟨g, 0, Option.none⟩ ∧ B ≤ g ∧ w.cell? ⟨g, i * 3, Option.none⟩ = some (.int .i64 (ld ls i).1) ∧ w.cell? ⟨g, i * 3 + 1, Option.none⟩ = some (.int .i64 (ld ls i).2.1) ∧ w.cell? ⟨g, i * 3 + 2, Option.none⟩ = some (.int .i64 (ld ls i).2.2) := by
  have hl := h.2
  rcases h.1.cases' with ⟨-, rfl⟩ | ⟨g, cap', he, hr, hB, -⟩
  · simp at hl; omega
  · simp only [Value.slice.injEq] at he
    obtain ⟨rfl, -, -⟩ := he
    exact ⟨g, rfl, hB, hr.cells i (by omega)⟩

/-- Loads that came in: whatever address; each three ints. -/
def InLds (w : World) (a : Option Addr) (n cap : Nat) (ls : List Ld) : Prop :=
  ls.length = n ∧ n ≤ cap ∧ cap ≤ maxLen ∧
  ((a = none ∧ n = 0 ∧ cap = 0) ∨ ∃ x, a = some x ∧ ∀ i, i < n → w.cell? (x.add (i * 3)) = some (.int .i64 (ld ls i).1) ∧ w.cell? (x.add (i * 3 + 1)) = some (.int .i64 (ld ls i).2.1) ∧ w.cell? (x.add (i * 3 + 2)) = some (.int .i64 (ld ls i).2.2))
theorem InLds.below {w w' : World} {a : Option Addr} {n cap : Nat} {ls : List Ld} (h : InLds w a n cap ls) (hb : Below w.heap.size w w') : InLds w' a n cap ls := by
  obtain ⟨h1, h2, h3, h5⟩ := h
  refine ⟨h1, h2, h3, h5.imp id ?_⟩
  rintro ⟨x, rfl, hx⟩
  exact ⟨x, rfl, fun i hi => ⟨(hb.cell (cell_block_lt (hx i hi).1)).trans (hx i hi).1, (hb.cell (cell_block_lt (hx i hi).2.1)).trans (hx i hi).2.1, (hb.cell (cell_block_lt (hx i hi).2.2)).trans (hx i hi).2.2⟩⟩
theorem lds_of {n : Nat} {q : Nat → Ld → Prop} (h : ∀ i, i < n → ∃ p, q i p) : ∃ ls : List Ld, ls.length = n ∧ ∀ i, i < n → q i (ld ls i) := by
  induction n with
  | zero => exact ⟨[], rfl, fun i hi => absurd hi (Nat.not_lt_zero i)⟩
  | succ n ih =>
    obtain ⟨ls, hl, hq⟩ := ih fun i hi => h i (by omega)
    obtain ⟨p, hp⟩ := h n (by omega)
    refine ⟨ls ++ [p], by simp [hl], fun i hi => ?_⟩
    by_cases he : i < n
    · rw [ld_app1 (by omega)]; exact hq i he
    · obtain rfl : i = n := by omega
      rw [← hl, ld_app2, hl]; exact hp

/-- Three cells that read as a load are three ints. -/
theorem load_cells {H : Type} {enc : TypeId × Value → H} {w : World} {base fuel : Nat} {spare : Nat → Bool} {held : Bool} {c0 c1 c2 : Value} {d : DataW H × List MemPlace}
    (hf : DataW.trod enc Try.prog w base spare held fuel 84 [c0, c1, c2] = some d) : ∃ x y z : Int, c0 = .int .i64 x ∧ c1 = .int .i64 y ∧ c2 = .int .i64 z := by
  obtain ⟨y0, y1, y2, n, hx, -, h0, h1, h2⟩ := trod_struct3 Try.underlying84 hf
  have ci : Try.prog.cellsOf 3 = 1 := by kernel_rfl
  simp only [ci, List.drop_zero, List.take_succ_cons, List.take_zero, List.drop_succ_cons] at h0 h1 h2
  obtain ⟨a, e0, -, wa⟩ := DataW.trod_int Try.underlying3 h0
  obtain ⟨b, e1, -, wb⟩ := DataW.trod_int Try.underlying3 h1
  obtain ⟨c, e2, -, wc⟩ := DataW.trod_int Try.underlying3 h2
  simp at e0 e1 e2
  exact ⟨a, b, c, e0, e1, e2⟩

/-- A list of loads that came in. -/
theorem open_loads {H : Type} {enc : TypeId × Value → H} {w : World} {r : Reach} {b0 base : Nat} {spare : Nat → Bool} {held : Bool} {v : Value} {d : DataW H} {p : List MemPlace}
    (hv : Value.okWide Try.prog w r b0 47 v) (h : DataW.Trod enc Try.prog w base spare held 47 v d p) :
    ∃ (a : Option Addr) (n cap : Nat) (ls : List Ld), v = .slice a n cap ∧ InLds w a n cap ls := by
  obtain ⟨a, len, cap, rfl⟩ := okWide_slice Try.underlying47 hv
  obtain ⟨fuel, hf⟩ := h
  have hf1 : DataW.trod enc Try.prog w base spare held fuel 47 [.slice a len cap] = some (d, p) := by simpa [Value.cells] using hf
  have cj : Try.prog.cellsOf 84 = 3 := by kernel_rfl
  rcases open_slice Try.underlying47 hf1 with ⟨hc, _⟩ | ⟨ad, len', cap', m, fu, D, Pl, hc, _, hl, hm, hmm, _, hcell⟩
  · simp at hc
    obtain ⟨rfl, rfl, rfl⟩ := hc
    exact ⟨none, 0, 0, [], rfl, rfl, Nat.le_refl _, Nat.zero_le _, .inl ⟨rfl, rfl, rfl⟩⟩
  · simp at hc
    obtain ⟨rfl, rfl, rfl⟩ := hc
    have hlm : len ≤ m := by rw [hmm]; split <;> omega
    rw [cj] at hcell
    obtain ⟨ls, hcl, hq⟩ := lds_of (n := len) (q := fun i p => w.cell? (ad.add (i * 3)) = some (.int .i64 p.1) ∧ w.cell? (ad.add (i * 3 + 1)) = some (.int .i64 p.2.1) ∧ w.cell? (ad.add (i * 3 + 2)) = some (.int .i64 p.2.2)) (fun i hi => by
      obtain ⟨cs', h1, h2⟩ := hcell i (by omega)
      obtain ⟨_, hlen', hat⟩ := World.cells?_some h1
      match cs', hlen' with
      | [v0, v1, v2], _ =>
        obtain ⟨x, y, z, rfl, rfl, rfl⟩ := load_cells h2
        have e0 := hat 0 (by omega)
        have e1 := hat 1 (by omega)
        have e2 := hat 2 (by omega)
        rw [Go.Deep.add_add] at e0 e1 e2
        exact ⟨(x, y, z), by simpa using e0, by simpa using e1, by simpa using e2⟩)
    exact ⟨some ad, len, cap, ls, rfl, hcl, hl, hm, .inr ⟨ad, rfl, fun i hi => hq i hi⟩⟩

/-- What szLoadS answers, of whatever is left. -/
def szL (n : Nat) (L : Int) : Int := if (n : Int) ≤ L then L - n else -1
theorem szLoadS (a : Option Addr) (n cap : Nat) (L : Int) (w : World) (hn : n ≤ maxLen) (hL : 0 ≤ L ∧ L ≤ 1048576) :
    Calls Try.prog 16 #[.slice a n cap, .int .i64 L] w fun e w' => e = .returned (.int .i64 (szL n L)) ∧ w = w' := by
  unfold maxLen at hn
  obtain ⟨hL0, hL1⟩ := hL
  by_cases h : (n : Int) ≤ L
  · go_enter Try.func16, Try.ntmps16
    go_wp2
    go_ret
    exact ⟨ret_i64 (by unfold szL; rw [if_pos h]), rfl⟩
  · go_enter Try.func16, Try.ntmps16
    go_wp2
    go_ret
    exact ⟨ret_i64 (by unfold szL; rw [if_neg (by omega)]), rfl⟩

/-- Loads as far as they have been copied. -/
def flatLTo (ls : List Ld) (k : Nat) : List Value := flatL (ls.take k) ++ List.replicate ((ls.length - k) * 3) (.int .i64 0)
theorem flatLTo_zero (ls : List Ld) : flatLTo ls 0 = List.replicate (ls.length * 3) (.int .i64 0) := by simp [flatLTo, flatL]
theorem flatLTo_end (ls : List Ld) : flatLTo ls ls.length = flatL ls := by simp [flatLTo]
theorem flatLTo_next (ls : List Ld) (k : Nat) (h : k < ls.length) : (((flatLTo ls k).set (k * 3) (.int .i64 (ld ls k).1)).set (k * 3 + 1) (.int .i64 (ld ls k).2.1)).set (k * 3 + 2) (.int .i64 (ld ls k).2.2) = flatLTo ls (k + 1) := by
  have hl : (flatL (ls.take k)).length = k * 3 := by rw [flatL_length, List.length_take]; omega
  unfold flatLTo
  rw [show (ls.length - k) * 3 = (ls.length - (k + 1)) * 3 + 1 + 1 + 1 by omega]
  simp only [List.replicate_succ]
  rw [List.set_append_right _ _ (by omega), hl, Nat.sub_self, List.set_cons_zero, List.set_append_right _ _ (by omega), hl, show k * 3 + 1 - k * 3 = 1 by omega, List.set_cons_succ, List.set_cons_zero,
    List.set_append_right _ _ (by omega), hl, show k * 3 + 2 - k * 3 = 2 by omega, List.set_cons_succ, List.set_cons_succ, List.set_cons_zero]
  rw [List.take_succ_eq_append_getElem h, flatL_append, List.append_assoc, ld_get h]
  rfl
theorem flatLTo_at (ls : List Ld) (k i : Nat) (h : k < ls.length) (hi : i < 3) : (flatLTo ls k)[k * 3 + i]? = some (.int .i64 0) := by
  have hl : (flatL (ls.take k)).length = k * 3 := by rw [flatL_length, List.length_take]; omega
  unfold flatLTo
  rw [List.getElem?_append_right (by omega), hl, List.getElem?_replicate, if_pos (by omega)]
theorem made_zeroL (n : Nat) : (madeCells (Value.agg #[.int .i64 0, .int .i64 0, .int .i64 0]).cells n).toList = List.replicate n (Value.int .i64 0) := by
  unfold madeCells
  rw [Array.toList_map]
  refine List.ext_getElem (by simp) fun i h1 h2 => ?_
  rw [List.getElem_map, List.getElem_replicate]
  have : i % 3 = 0 ∨ i % 3 = 1 ∨ i % 3 = 2 := by omega
  simp [Value.cells]
  rcases this with h | h | h <;> simp [h]
theorem Try.infoLn : (Try.prog.info? 82).map (fun i => (i.zero, i.size, i.bytes)) = some (some (.agg #[.int .i64 0, .int .i64 0, .int .i64 0]), 3, 24) := by kernel_rfl

set_option maxHeartbeats 400000 in
theorem toLoad (x y z : Int) (w : World) :
    Calls Try.prog 41 #[.agg #[.int .i64 x, .int .i64 y, .int .i64 z]] w fun e w' => e = .returned (.agg #[.int .i64 x, .int .i64 y, .int .i64 z]) ∧ Below w.heap.size w w' := by
  go_enter Try.func41, Try.ntmps41
  go_wp2
  refine bodyPost_ret (v := .agg #[.int .i64 x, .int .i64 y, .int .i64 z]) (by simp [results, Try.results41, go_sem]) rfl ⟨rfl, ?_⟩
  repeat (first | exact Below.refl _ _ | refine Below.alloc ?_ (by simp <;> omega) _ | refine Below.setCell ?_ (by simp <;> omega) _)

set_option maxHeartbeats 1000000 in
theorem toLoadS (a : Option Addr) (n cap : Nat) (ls : List Ld) (w : World) (h : InLds w a n cap ls) (hn : n ≤ 1048576) :
    Calls Try.prog 19 #[.slice a n cap] w fun e w' => ∃ g, w.heap.size ≤ g ∧ e = .returned (.slice (some ⟨g, 0, none⟩) n n) ∧ Lds w' w.heap.size (some ⟨g, 0, none⟩) n n ls ∧ Below w.heap.size w w' := by
  obtain ⟨i0, hi, hz0, hz1, hz2⟩ := info_parts Try.infoLn
  obtain ⟨hl, hc, hm, hcase⟩ := h
  have hX : ∃ ad : Addr, 0 < n → a = some ad ∧ ∀ i, i < n → w.cell? (ad.add (i * 3)) = some (.int .i64 (ld ls i).1) ∧ w.cell? (ad.add (i * 3 + 1)) = some (.int .i64 (ld ls i).2.1) ∧ w.cell? (ad.add (i * 3 + 2)) = some (.int .i64 (ld ls i).2.2) := by
    rcases hcase with ⟨rfl, h0, -⟩ | ⟨x, rfl, hx⟩
    · exact ⟨⟨0, 0, none⟩, fun h => absurd h (by omega)⟩
    · exact ⟨x, fun _ => ⟨rfl, hx⟩⟩
  clear hcase
  unfold maxLen at hm
  subst hl
  go_enter Try.func19, Try.ntmps19
  go_wp2_with (at_make; refine wpList_make_full _ rfl _ _ 27 rfl w.heap.size 82 i0 (.agg #[.int .i64 0, .int .i64 0, .int .i64 0]) 3 Try.underlying27 hi hz0 hz1 .i64 .i64 _ _ ls.length rfl rfl rfl rfl (by rw [hz2]; omega) (by unfold maxLen; omega) (Nat.le_refl _) ?_; intro w0 hown0 hgrow0)
  rw [made_zeroL, ← flatLTo_zero] at hown0
  have hb0 : Below w.heap.size w w0 := (Below.refl _ _).grown hgrow0 (Nat.le_refl _) (fun k hk => by cases hk)
  clear hgrow0
  obtain ⟨ad, hX⟩ := hX
  have HX := Lib.hid hX
  clear hX
  generalize hN : ls.length = N at *
  have HN := Lib.hid hN
  clear hN
  go_loopw [4] (fun t wr => ∃ k : Nat, k ≤ N ∧ t = .int .i64 k ∧ wr.ownsRow w.heap.size 82 3 (.slice (some ⟨w.heap.size, 0, none⟩) N N) N (flatLTo ls k) ∧ Below w.heap.size w wr)
    (fun t _ => N - (intOf t).toNat)
  case atStart => exact ⟨0, Nat.zero_le _, rfl, hown0, hb0⟩
  case round =>
    obtain ⟨k, hk, rfl, hown, hbw⟩ := hrel
    have HO := Lib.hid hown
    have HB := Lib.hid hbw
    by_cases hlt : k < N
    · obtain ⟨rfl, hcell⟩ := HX.out (by omega)
      obtain ⟨q0, q1, q2⟩ := hcell k hlt
      have hadlt := cell_block_lt q0
      rw [adb] at hadlt
      have r0 : wr.cell? (ad.add (k * 3)) = some (.int .i64 (ld ls k).1) := by rw [hbw.cell (by rw [adb]; exact hadlt)]; exact q0
      have r1 : wr.cell? ⟨(ad.add (k * 3)).block, (ad.add (k * 3)).off + 1, none⟩ = some (.int .i64 (ld ls k).2.1) := by rw [ad1, Go.Deep.add_add, hbw.cell (by rw [adb]; exact hadlt)]; exact q1
      have r2 : wr.cell? ⟨(ad.add (k * 3)).block, (ad.add (k * 3)).off + 2, none⟩ = some (.int .i64 (ld ls k).2.2) := by rw [show (⟨(ad.add (k * 3)).block, (ad.add (k * 3)).off + 2, none⟩ : Addr) = (ad.add (k * 3)).add 2 from rfl, Go.Deep.add_add, hbw.cell (by rw [adb]; exact hadlt)]; exact q2
      clear q0 q1 q2 hcell HX hown hbw
      have HP := Lib.hid hlt
      obtain ⟨px, hpx⟩ : ∃ px, px = (ld ls k).1 := ⟨_, rfl⟩
      obtain ⟨py, hpy⟩ : ∃ py, py = (ld ls k).2.1 := ⟨_, rfl⟩
      obtain ⟨pz, hpz⟩ : ∃ pz, pz = (ld ls k).2.2 := ⟨_, rfl⟩
      rw [← hpx] at r0
      rw [← hpy] at r1
      rw [← hpz] at r2
      have HPX := Lib.hid hpx
      have HPY := Lib.hid hpy
      have HPZ := Lib.hid hpz
      clear hpx hpy hpz
      go_wp2_with fail
      refine (toLoad _ _ _ _).mono ?_
      rintro e w1 ⟨rfl, hb1⟩
      have ho1 := owns_below HO.out hb1
      have hlN := HN.out
      have c0 : w1.cell? ⟨w.heap.size, k * 3, none⟩ = some (.int .i64 0) := (World.ownsRow.cellAt ho1 (k * 3) (by omega)).trans (flatLTo_at ls k 0 (by omega) (by omega))
      have c1 : w1.cell? ⟨w.heap.size, k * 3 + 1, none⟩ = some (.int .i64 0) := (World.ownsRow.cellAt ho1 (k * 3 + 1) (by omega)).trans (flatLTo_at ls k 1 (by omega) (by omega))
      have c2 : w1.cell? ⟨w.heap.size, k * 3 + 2, none⟩ = some (.int .i64 0) := (World.ownsRow.cellAt ho1 (k * 3 + 2) (by omega)).trans (flatLTo_at ls k 2 (by omega) (by omega))
      have hfr := fun j => World.ownsRow.frozenAt ho1 j
      have f0 := hfr (k * 3)
      have f1 := hfr (k * 3 + 1)
      have f2 := hfr (k * 3 + 2)
      have ho2 := (World.ownsRow.stored (World.ownsRow.stored (World.ownsRow.stored ho1 (k * 3) (.int .i64 px)).1 (k * 3 + 1) (.int .i64 py)).1 (k * 3 + 2) (.int .i64 pz)).1
      rw [HPX.out, HPY.out, HPZ.out, flatLTo_next ls k (by omega), ← HPX.out, ← HPY.out, ← HPZ.out] at ho2
      have hbb : Below w.heap.size w (((w1.setCell ⟨w.heap.size, k * 3, none⟩ (.int .i64 px)).setCell ⟨w.heap.size, k * 3 + 1, none⟩ (.int .i64 py)).setCell ⟨w.heap.size, k * 3 + 2, none⟩ (.int .i64 pz)) :=
        (((HB.out.trans (hb1.mono HB.out.size)).setCell (p := ⟨w.heap.size, k * 3, none⟩) (Nat.le_refl _) _).setCell (p := ⟨w.heap.size, k * 3 + 1, none⟩) (Nat.le_refl _) _).setCell (p := ⟨w.heap.size, k * 3 + 2, none⟩) (Nat.le_refl _) _
      have HO2 := Lib.hid ho2
      have HBB := Lib.hid hbb
      clear hfr ho1 ho2 hbb hlN HO HB hb1
      go_wp2_with fail
      go_roundw
      case rel => exact ⟨k + 1, by omega, by go_num, HO2.out, HBB.out⟩
      case measure => simp [intOf]; omega
    · obtain rfl : k = N := by omega
      clear hown hbw
      go_wp2_with fail
      go_ret
      have hlN := HN.out
      refine ⟨w.heap.size, Nat.le_refl _, by rw [hlN]; rfl, ⟨?_, rfl⟩, HB.out⟩
      have := HO.out
      rw [← hlN, flatLTo_end] at this
      exact this

set_option maxHeartbeats 400000 in
theorem eqLoad_same (x y z : Int) (w : World) :
    Calls Try.prog 44 #[.agg #[.int .i64 x, .int .i64 y, .int .i64 z], .agg #[.int .i64 x, .int .i64 y, .int .i64 z]] w fun e w' => e = .returned (.bool true) ∧ Below w.heap.size w w' := by
  have e0 : (x != x) = false := by simp
  have e1 : (y != y) = false := by simp
  have e2 : (z != z) = false := by simp
  go_enter Try.func44, Try.ntmps44
  go_wp2_with fail
  go_ret
  refine ⟨rfl, ?_⟩
  repeat (first | exact Below.refl _ _ | refine Below.alloc ?_ (by simp <;> omega) _)

set_option maxHeartbeats 2000000 in
/-- Two rows of the same loads are told equal. -/
theorem eqLoadS_same (w : World) (B1 B2 m cap1 cap2 : Nat) (a1 a2 : Option Addr) (ls : List Ld) (h1 : Lds w B1 a1 m cap1 ls) (h2 : Lds w B2 a2 m cap2 ls) :
    Calls Try.prog 23 #[.slice a1 m cap1, .slice a2 m cap2] w fun e w' => e = .returned (.bool true) ∧ Below w.heap.size w w' := by
  obtain ⟨hc1, hm1⟩ := h1.cap
  obtain ⟨hc2, hm2⟩ := h2.cap
  unfold maxLen at hm1 hm2
  have H1 := Lib.hid h1
  have H2 := Lib.hid h2
  clear h1 h2
  go_enter Try.func23, Try.ntmps23
  go_wp2_with fail
  go_loopw [5] (fun t wr => ∃ k : Nat, k ≤ m ∧ t = .int .i64 k ∧ Below w.heap.size w wr)
    (fun t _ => m - (intOf t).toNat)
  case atStart => exact ⟨0, Nat.zero_le _, rfl, Below.refl _ _⟩
  case round =>
    obtain ⟨k, hk, rfl, hbw⟩ := hrel
    have HB := Lib.hid hbw
    by_cases hlt : k < m
    · obtain ⟨g1, rfl, -, a0, a1, a2⟩ := (H1.out.below hbw).at k hlt
      obtain ⟨g2, rfl, -, b0, b1, b2⟩ := (H2.out.below hbw).at k hlt
      generalize (ld ls k).1 = px at *
      generalize (ld ls k).2.1 = py at *
      generalize (ld ls k).2.2 = pz at *
      clear hbw
      go_wp2_with fail
      have hn1 := Since.nonempty wr
      have hz := HB.out.size
      have sa0 := fun (x : Since wr) => (x.cell g1 (k * 3) (cell_block_lt a0)).trans a0
      have sa1 := fun (x : Since wr) => (x.cell g1 (k * 3 + 1) (cell_block_lt a1)).trans a1
      have sa2 := fun (x : Since wr) => (x.cell g1 (k * 3 + 2) (cell_block_lt a2)).trans a2
      have sb0 := fun (x : Since wr) => (x.cell g2 (k * 3) (cell_block_lt b0)).trans b0
      have sb1 := fun (x : Since wr) => (x.cell g2 (k * 3 + 1) (cell_block_lt b1)).trans b1
      have sb2 := fun (x : Since wr) => (x.cell g2 (k * 3 + 2) (cell_block_lt b2)).trans b2
      refine wp_region_since (by kernel_rfl) (by kernel_rfl) ?_
      repeat (go_big_quiet_step (first
        | (go_at_call 44; exact Since.call (eqLoad_same _ _ _ _))))
      refine wpQuiet_nil ?_
      rintro w2 ⟨⟨_, hb2⟩, rfl⟩
      have HB2 := Lib.hid (HB.out.trans (hb2.mono hz))
      clear sa0 sa1 sa2 sb0 sb1 sb2 hb2 a0 a1 a2 b0 b1 b2
      go_wp2_with fail
      go_roundw
      case rel => exact ⟨k + 1, by omega, by go_num, HB2.out⟩
      case measure => simp [intOf]; omega
    · obtain rfl : k = m := by omega
      clear hbw
      go_wp2_with fail
      go_ret
      exact ⟨rfl, HB.out⟩
end Go.Proofs.Ytbmlcfdilopmgaa

/- The model's LoadsOk. -/
namespace Go.Proofs.Ytbmlcfdilopmgaa
set_option maxRecDepth 100000
open Go.ChangeShapes Go.WideShapes Go.ChangeAt Go.RowKit

theorem l01InG (n lo hi : Int) (w : World) :
    Calls Try.prog 73 #[.int .i64 n, .int .i64 lo, .int .i64 hi] w fun e w' => e = .returned (.bool (decide (lo ≤ n ∧ n ≤ hi))) ∧ w = w' := by
  by_cases h : n < lo
  · go_enter Try.func73, Try.ntmps73
    go_wp2
    go_ret
    exact ⟨ret_bool (by simp <;> omega), rfl⟩
  · go_enter Try.func73, Try.ntmps73
    go_wp2
    go_ret
    exact ⟨ret_bool (by simp <;> omega), rfl⟩
theorem l01InS (n : Nat) (x : Int) (w : World) :
    Calls Try.prog 73 #[.int .i64 x, .int .i64 0, .int .i64 ((n : Int) - 2)] w fun e w' => e = .returned (.bool (ldS n x)) ∧ w = w' := l01InG x 0 ((n : Int) - 2) w
theorem l01InW (x : Int) (w : World) :
    Calls Try.prog 73 #[.int .i64 x, .int .i64 0, .int .i64 10000] w fun e w' => e = .returned (.bool (ldW x)) ∧ w = w' := l01InG x 0 10000 w

set_option maxHeartbeats 4000000 in
theorem specLoadsOk (w : World) (B B2 g cap n : Nat) (la : Option Addr) (m lc : Nat) (js : List Jt) (ls : List Ld) (hr : JRowAt w B g cap js) (hn : js.length = n) (h8 : n ≤ 1048576) (hl : Lds w B2 la m lc ls) :
    Calls Try.prog 53 #[.agg #[.slice (some ⟨g, 0, none⟩) n cap], .slice la m lc] w fun e w' => e = .returned (.bool (loadsV js ls)) ∧ Below w.heap.size w w' := by
  have hb0 := (Below.refl w.heap.size w).alloc (Nat.le_refl _) (.cells #[.slice (some ⟨g, 0, none⟩) n cap] 26)
  have hs0 : (w.alloc (.cells #[.slice (some ⟨g, 0, none⟩) n cap] 26)).cell? ⟨w.heap.size, 0, none⟩ = some (.slice (some ⟨g, 0, none⟩) n cap) := by go_simp
  obtain ⟨hmc, hcm⟩ := hl.cap
  unfold maxLen at hcm
  have HR := Lib.hid hr
  have HL := Lib.hid hl
  have HLEN := Lib.hid hl.2
  have HB0 := Lib.hid hb0
  have HS0 := Lib.hid hs0
  have HN := Lib.hid hn
  have HZ := Lib.hid (allFrom_zero m (ldAt n ls))
  have e2 : IntKind.i64.wrap ((n : Int) - 2) = (n : Int) - 2 := IntWalk.i64_in _ (by omega)
  clear hr hl hb0 hs0 hn
  go_enter Try.func53, Try.ntmps53
  go_wp2_with fail
  go_loopw [5] (fun t wr => ∃ k : Nat, k ≤ m ∧ t = .int .i64 k ∧ allFrom m k (ldAt n ls) = allFrom m 0 (ldAt n ls) ∧ Below w.heap.size w wr ∧ wr.cell? ⟨w.heap.size, 0, none⟩ = some (.slice (some ⟨g, 0, none⟩) n cap))
    (fun t _ => m - (intOf t).toNat)
  case atStart => exact ⟨0, Nat.zero_le _, rfl, rfl, HB0.out, HS0.out⟩
  case round =>
    obtain ⟨k, hk, rfl, hall, hbw, hsw⟩ := hrel
    have HB := Lib.hid hbw
    have HA := Lib.hid hall
    clear hall
    by_cases hlt : k < m
    · obtain ⟨g, rfl, -, a0, a1, a2⟩ := (HL.out.below hbw).at k hlt
      have HP := Lib.hid (show ldAt n ls k = (ldS n (ld ls k).1 && (ldW (ld ls k).2.1 && inP (ld ls k).2.2)) from rfl)
      generalize (ld ls k).1 = x at *
      generalize (ld ls k).2.1 = y at *
      generalize (ld ls k).2.2 = z at *
      have hz := HB.out.size
      have hwl : w.heap.size < wr.heap.size := cell_block_lt hsw
      have hwn := Nat.ne_of_lt hwl
      have HF := Lib.hid (show ldAt n ls k = false → loadsV js ls = false from fun h => by
        have hh : ldAll n ls = false := by unfold ldAll; rw [HLEN.out, ← HZ.out, ← HA.out]; exact allFrom_no hlt h
        unfold loadsV
        rw [HN.out, hh, Bool.and_false, Bool.and_false])
      clear hbw
      cases hx : ldS n x
      · have HV := Lib.hid (HF.out (by rw [HP.out, hx]; rfl))
        go_wp2_with fail
        refine (l01InS _ _ _).mono ?_
        rintro e w1 ⟨rfl, rfl⟩
        rw [hx]
        go_wp2_with fail
        go_ret
        refine ⟨ret_bool HV.out.symm, ?_⟩
        repeat (first | exact HB.out | exact below_al2 HB.out _ | refine Below.setCell ?_ (by first | exact hz | (simp <;> omega)) _)
      cases hy : ldW y
      · have HV := Lib.hid (HF.out (by rw [HP.out, hy]; simp))
        go_wp2_with fail
        refine (l01InS _ _ _).mono ?_
        rintro e w1 ⟨rfl, rfl⟩
        rw [hx]
        go_wp2_with fail
        refine (l01InW _ _).mono ?_
        rintro e w1 ⟨rfl, rfl⟩
        rw [hy]
        go_wp2_with fail
        go_ret
        refine ⟨ret_bool HV.out.symm, ?_⟩
        repeat (first | exact HB.out | exact below_al2 HB.out _ | refine Below.setCell ?_ (by first | exact hz | (simp <;> omega)) _)
      cases hp : inP z
      · have HV := Lib.hid (HF.out (by rw [HP.out, hp]; simp))
        go_wp2_with fail
        refine (l01InS _ _ _).mono ?_
        rintro e w1 ⟨rfl, rfl⟩
        rw [hx]
        go_wp2_with fail
        refine (l01InW _ _).mono ?_
        rintro e w1 ⟨rfl, rfl⟩
        rw [hy]
        go_wp2_with fail
        refine (l01In60 _ _).mono ?_
        rintro e w1 ⟨rfl, rfl⟩
        rw [hp]
        go_wp2_with fail
        go_ret
        refine ⟨ret_bool HV.out.symm, ?_⟩
        repeat (first | exact HB.out | exact below_al2 HB.out _ | refine Below.setCell ?_ (by first | exact hz | (simp <;> omega)) _)
      · have HT := Lib.hid (show ldAt n ls k = true by rw [HP.out, hx, hy, hp]; rfl)
        go_wp2_with fail
        refine (l01InS _ _ _).mono ?_
        rintro e w1 ⟨rfl, rfl⟩
        rw [hx]
        go_wp2_with fail
        refine (l01InW _ _).mono ?_
        rintro e w1 ⟨rfl, rfl⟩
        rw [hy]
        go_wp2_with fail
        refine (l01In60 _ _).mono ?_
        rintro e w1 ⟨rfl, rfl⟩
        rw [hp]
        go_wp2_with fail
        go_roundw
        case rel =>
          refine ⟨k + 1, by omega, by go_num, by rw [← HA.out]; exact allFrom_yes hlt HT.out, ?_, ?_⟩
          · repeat (first | exact HB.out | exact below_al2 HB.out _ | refine Below.setCell ?_ (by first | exact hz | (simp <;> omega)) _)
          · have := cell_block_lt hsw; go_simp
        case measure => simp [intOf]; omega
    · obtain rfl : k = m := by omega
      have HR1 := Lib.hid (JRowAt.below HR.out hbw)
      have HALL := Lib.hid (show ldAll n ls = true by unfold ldAll; rw [HLEN.out, ← HZ.out, ← HA.out, allFrom_end])
      have HV := Lib.hid (show loadsV js ls = (archV js && decide (k ≤ 6)) by unfold loadsV; rw [HN.out, HALL.out, Bool.and_true, HLEN.out])
      clear hbw
      go_wp2_with fail
      refine (specArchOk _ _ _ _ _ js HR1.out HN.out h8).mono ?_
      rintro e w1 ⟨rfl, hb1⟩
      have HB1 := Lib.hid (HB.out.trans (hb1.mono HB.out.size))
      clear hb1
      cases h : archV js
      all_goals
        go_wp2_with fail
        go_ret
        exact ⟨ret_bool (by rw [HV.out, h]; first | rfl | (simp; done) | (simp; omega)), HB1.out⟩
end Go.Proofs.Ytbmlcfdilopmgaa

/- The model's l07Left, WeightLeft, MomentLeft, TotalOf, with loads. -/
namespace Go.Proofs.Ytbmlcfdilopmgaa
set_option maxRecDepth 100000
open Go.ChangeShapes Go.WideShapes Go.ChangeAt Go.RowKit

/-- The sums of weights and moments were handed back, in new memory. -/
def LeftsAns (js : List Jt) (ls : List Ld) (n : Nat) (w : World) (e : Ending) (w' : World) : Prop :=
  ∃ g1 c1 g2 c2, e = .returned (.tuple #[.slice (some ⟨g1, 0, none⟩) n c1, .slice (some ⟨g2, 0, none⟩) n c2]) ∧ SumRow w' w.heap.size g1 c1 n (wL js ls) ∧ SumRow w' w.heap.size g2 c2 n (mL js ls) ∧ Below w.heap.size w w'

set_option maxHeartbeats 4000000 in
theorem specLeft (w : World) (B B2 g cap n : Nat) (la : Option Addr) (m lc : Nat) (js : List Jt) (ls : List Ld) (hr : JRowAt w B g cap js) (hn : js.length = n) (hl : Lds w B2 la m lc ls) (hvl : loadsV js ls = true) :
    Calls Try.prog 54 #[.agg #[.slice (some ⟨g, 0, none⟩) n cap], .slice la m lc] w (LeftsAns js ls n w) := by
  obtain ⟨i0, hi0, hz0, hz1, hz2⟩ := info_parts Try.infoIn
  have hb0 := (Below.refl w.heap.size w).alloc (Nat.le_refl _) (.cells #[.slice (some ⟨g, 0, none⟩) n cap] 26)
  have hv := (loadsV_iff.1 hvl).1
  have h38 := arch_size hv
  obtain ⟨hmc, hlcm⟩ := hl.cap
  unfold maxLen at hlcm
  rw [hn] at h38
  obtain ⟨h3, h8⟩ := h38
  obtain ⟨-, hgw, hcap, hcm⟩ := hr.lt
  rw [hn] at hcap
  unfold maxLen at hcm
  have hr1 := sum_one (w.alloc (.cells #[.slice (some ⟨g, 0, none⟩) n cap] 26)) (w.heap.size + 1) (wL js ls) (by simp)
  have hal : Below (w.alloc (.cells #[.slice (some ⟨g, 0, none⟩) n cap] 26)).heap.size (w.alloc (.cells #[.slice (some ⟨g, 0, none⟩) n cap] 26)) ((w.alloc (.cells #[.slice (some ⟨g, 0, none⟩) n cap] 26)).alloc (.cells #[.int .i64 0] 3)) := (Below.refl _ _).alloc (Nat.le_refl _) _
  have hr2 := sum_one ((w.alloc (.cells #[.slice (some ⟨g, 0, none⟩) n cap] 26)).alloc (.cells #[.int .i64 0] 3)) (w.heap.size + 1) (mL js ls) (by simp <;> omega)
  have hr1' := hr1.below ((Below.refl ((w.alloc (.cells #[.slice (some ⟨g, 0, none⟩) n cap] 26)).alloc (.cells #[.int .i64 0] 3)).heap.size _).alloc (Nat.le_refl _) (.cells #[.int .i64 0] 3))
  simp only [World.size_alloc] at hr1' hr2
  have hb2 := (hb0.alloc (by simp) (.cells #[.int .i64 0] 3)).alloc (by simp <;> omega) (.cells #[.int .i64 0] 3)
  have hs2 : (((w.alloc (.cells #[.slice (some ⟨g, 0, none⟩) n cap] 26)).alloc (.cells #[.int .i64 0] 3)).alloc (.cells #[.int .i64 0] 3)).cell? ⟨w.heap.size, 0, none⟩ = some (.slice (some ⟨g, 0, none⟩) n cap) := by go_simp
  have HR := Lib.hid hr
  have HN := Lib.hid hn
  have HV := Lib.hid hv
  have HVL := Lib.hid hvl
  have HL := Lib.hid hl
  have HLEN := Lib.hid hl.2
  have R1 := Lib.hid hr1'
  have R2 := Lib.hid hr2
  have HB2 := Lib.hid hb2
  have HS2 := Lib.hid hs2
  clear hr hn hv hvl hl hb0 hr1 hr1' hr2 hal hb2 hs2
  go_enter Try.func54, Try.ntmps54
  go_wp2_with fail
  go_loopw [6, 7, 8] (fun p q t wr => ∃ k g1 c1 g2 c2 : Nat, 1 ≤ k ∧ k ≤ n ∧ t = .int .i64 k ∧ p = .slice (some ⟨g1, 0, none⟩) k c1 ∧ q = .slice (some ⟨g2, 0, none⟩) k c2 ∧ g1 ≠ g2 ∧
      SumRow wr (w.heap.size + 1) g1 c1 k (wL js ls) ∧ SumRow wr (w.heap.size + 1) g2 c2 k (mL js ls) ∧ Below w.heap.size w wr ∧ wr.cell? ⟨w.heap.size, 0, none⟩ = some (.slice (some ⟨g, 0, none⟩) n cap))
    (fun _ _ t _ => n - (intOf t).toNat)
  case atStart => exact ⟨1, w.heap.size + 1, 1, w.heap.size + 1 + 1, 1, Nat.le_refl _, by omega, rfl, rfl, rfl, by omega, R1.out, R2.out, HB2.out, HS2.out⟩
  case round =>
    clear R1 R2 HB2 HS2
    obtain ⟨k, g1, c1, g2, c2, hk1, hk, rfl, rfl, rfl, hne, r1, r2, hbw, hsw⟩ := hrel
    have HB := Lib.hid hbw
    have R1 := Lib.hid r1
    have R2 := Lib.hid r2
    obtain ⟨-, hl1, hkc1, hm1⟩ := r1.lt
    obtain ⟨-, hl2, hkc2, hm2⟩ := r2.lt
    unfold maxLen at hm1 hm2
    by_cases hlt : k < n
    · have hlN := HN.out
      obtain ⟨j, hj⟩ : ∃ j : Nat, j + 1 = k := ⟨k - 1, by omega⟩
      have hrw := JRowAt.below HR.out hbw
      obtain ⟨a0, a1, a2, a3⟩ := hrw.cells j (by omega)
      obtain ⟨d0, d1, d2, d3⟩ := hrw.cells k (by omega)
      have hS := arch_bet HV.out (i := j) (by omega)
      rw [hj] at hS
      have hwk : wK js j = weightV (betw (jt js j) (jt js k)) := by unfold wK; rw [hj]
      have hmk : mK js j = momV (betw (jt js j) (jt js k)) := by unfold mK; rw [hj]
      obtain ⟨⟨⟨ax, ay⟩, ⟨bx, by_⟩⟩, ea⟩ : ∃ p, jt js j = p := ⟨_, rfl⟩
      obtain ⟨⟨⟨cx, cy⟩, ⟨dx, dy⟩⟩, ec⟩ : ∃ p, jt js k = p := ⟨_, rfl⟩
      rw [ea] at a0 a1 a2 a3
      rw [ec] at d0 d1 d2 d3
      rw [ea, ec] at hS hwk hmk
      dsimp only at a0 a1 a2 a3 d0 d1 d2 d3
      have hSB := fun W => specStoneBetween ax ay bx by_ cx cy dx dy W
      unfold BetAns at hSB
      rw [betV_yes hS, hS] at hSB
      generalize betw ((ax, ay), (bx, by_)) ((cx, cy), (dx, dy)) = V at *
      have HSB := Lib.hid hSB
      have HWK := Lib.hid hwk
      have HMK := Lib.hid hmk
      have HJ := Lib.hid hj
      have e1 : IntKind.i64.wrap ((k : Int) - 1) = (j : Int) := by rw [IntWalk.i64_in _ (by omega)]; omega
      have hj0 : (0 : Int) ≤ (j : Int) := Int.natCast_nonneg _
      have hjn : (j : Int) < (n : Int) := by omega
      have hjk : (j : Int) < (k : Int) := by omega
      have hk0 : (0 : Int) ≤ (k : Int) := Int.natCast_nonneg _
      have hkn : (k : Int) < (n : Int) := by omega
      have mg := Nat.ne_of_lt (cell_block_lt a0)
      have mw := Nat.ne_of_lt (cell_block_lt hsw)
      dsimp only at mg mw
      have ng := Ne.symm mg
      have nw := Ne.symm mw
      clear hSB hwk hmk hj ea ec hrw hlN hbw hS r1 r2
      go_wp2_with fail
      go_cut [9, 10] from 20 to 37 (fun p r wx => ∃ (b : Nat) (ua : Option Addr) (uc : Nat), p = .pointer (some ⟨b, 0, none⟩) ∧ r = .bool true ∧ wx.cell? ⟨b, 0, none⟩ = some (.slice ua V.length uc) ∧ Row wx wr.heap.size (.slice ua V.length uc) V ∧ Below wr.heap.size wr wx)
      case first =>
        go_region_held3 (fun w' => w'.cell? ⟨w.heap.size, 0, none⟩ = some (.slice (some ⟨g, 0, none⟩) n cap) ∧ w'.cell? ⟨g, j * 4, none⟩ = some (.int .i64 ax) ∧ w'.cell? ⟨g, j * 4 + 1, none⟩ = some (.int .i64 ay) ∧ w'.cell? ⟨g, j * 4 + 2, none⟩ = some (.int .i64 bx) ∧ w'.cell? ⟨g, j * 4 + 3, none⟩ = some (.int .i64 by_) ∧ w'.cell? ⟨g, k * 4, none⟩ = some (.int .i64 cx) ∧ w'.cell? ⟨g, k * 4 + 1, none⟩ = some (.int .i64 cy) ∧ w'.cell? ⟨g, k * 4 + 2, none⟩ = some (.int .i64 dx) ∧ w'.cell? ⟨g, k * 4 + 3, none⟩ = some (.int .i64 dy))
          (first | (refine ⟨?_, ?_, ?_, ?_, ?_, ?_, ?_, ?_, ?_⟩ <;> exact cell_sf3 (by assumption) (by assumption)) | go_keep | trivial)
          (first
            | (go_at_call 77; refine (HSB.out _).mono ?_; rintro e w4 ⟨u4, rfl, hr4, hb4⟩; obtain ⟨sa4, sc4, hu4, -⟩ := row_sliceS hr4; have hs4 : Below wr.heap.size wr w4 := (by first | exact hb4 | exact st_drew3 hb4 | exact st_al3 hb4 | exact st_dal3 hb4); have hrb4 : Row w4 wr.heap.size u4 V := hr4.base (by simp); have R4 := Lib.hid hrb4; have D1 := Lib.hid (row_lt3 hr4); (first | (have D2 := Lib.hid (row_al3 (w := wr) hr4)) | (have D2 := Lib.hid (row_al3 (w := wr.drewN _) hr4)) | skip); have s4 : w4.cell? ⟨w.heap.size, 0, none⟩ = some (.slice (some ⟨g, 0, none⟩) n cap) := cell_kept hsw hs4; have a04 : w4.cell? ⟨g, j * 4, none⟩ = some (.int .i64 ax) := cell_kept a0 hs4; have a14 : w4.cell? ⟨g, j * 4 + 1, none⟩ = some (.int .i64 ay) := cell_kept a1 hs4; have a24 : w4.cell? ⟨g, j * 4 + 2, none⟩ = some (.int .i64 bx) := cell_kept a2 hs4; have a34 : w4.cell? ⟨g, j * 4 + 3, none⟩ = some (.int .i64 by_) := cell_kept a3 hs4; have d04 : w4.cell? ⟨g, k * 4, none⟩ = some (.int .i64 cx) := cell_kept d0 hs4; have d14 : w4.cell? ⟨g, k * 4 + 1, none⟩ = some (.int .i64 cy) := cell_kept d1 hs4; have d24 : w4.cell? ⟨g, k * 4 + 2, none⟩ = some (.int .i64 dx) := cell_kept d2 hs4; have d34 : w4.cell? ⟨g, k * 4 + 3, none⟩ = some (.int .i64 dy) := cell_kept d3 hs4; (first | (have z4 := fr_dal3 (w := wr) hb4) | (have z4 := fr_al3 (w := wr) hb4) | skip); (try (obtain ⟨zc4, zf4, zl4⟩ := z4)); have mg4 := Nat.ne_of_lt (cell_block_lt a04); have mw4 := Nat.ne_of_lt (cell_block_lt s4); dsimp only at mg4 mw4; have ng4 := Ne.symm mg4; have nw4 := Ne.symm mw4; have HB4 := Lib.hid hs4; clear hr4 hb4 hs4 hrb4; subst hu4))
        all_goals
          go_wp2_with fail
          go_meet
          refine ⟨_, sa4, sc4, rfl, rfl, by go_simp, ?_, ?_⟩
        all_goals first
          | exact ownsRow_setCell_other R4.out (a := ⟨wr.heap.size, 0, none⟩) D2.out _
          | exact World.ownsRow.alloc R4.out _
          | exact ownsRow_setCell_other (World.ownsRow.alloc R4.out _) (a := ⟨w4.heap.size, 0, none⟩) D1.out _
          | (repeat (first | refine Below.setCell ?_ (by first | exact Nat.le_refl _ | exact HB4.out.size) _ | exact HB4.out | exact below_al3 HB4.out _))
      case rest =>
        obtain ⟨b, ua, uc, rfl, rfl, hbx, hrx, hX⟩ := hcut
        have hz := HB.out.size
        have HB5 := Lib.hid (HB.out.trans (hX.mono hz))
        have s5 := cell_kept hsw hX
        have R15 := Lib.hid (R1.out.below hX)
        have R25 := Lib.hid (R2.out.below hX)
        have HRX := Lib.hid hrx
        have x5 := R15.out.cell j (by have := HJ.out; omega)
        have y5 := R25.out.cell j (by have := HJ.out; omega)
        have hsj := wL_bd HVL.out j (by omega)
        have hmj := mL_bd HVL.out j (by omega)
        have hsk := wL_bd HVL.out k (by omega)
        have hmk2 := mL_bd HVL.out k (by omega)
        have hn1 : sumTo (wL js ls) k = sumTo (wL js ls) j + weightV V + sumTo (onF ldw ls j) m := by rw [← HJ.out]; show sumTo (wL js ls) j + (wK js j + sumTo (onF ldw ls j) ls.length) = _; rw [HWK.out, HLEN.out]; omega
        have hn2 : sumTo (mL js ls) k = sumTo (mL js ls) j + momV V + sumTo (onF ldm ls j) m := by rw [← HJ.out]; show sumTo (mL js ls) j + (mK js j + sumTo (onF ldm ls j) ls.length) = _; rw [HMK.out, HLEN.out]; omega
        have hw5 := weightV_bd V
        have hm5 := momV_bd V
        have hCW := fun W h => specWeightOf W wr.heap.size (.slice ua V.length uc) V h
        have hCM := fun W h => specMomentOf W wr.heap.size (.slice ua V.length uc) V h
        have HS1 := Lib.hid (sums_next (wL js ls) k)
        have HS2 := Lib.hid (sums_next (mL js ls) k)
        generalize sumTo (wL js ls) j = Sj at *
        generalize sumTo (mL js ls) j = Mj at *
        generalize sumTo (wL js ls) k = Sk at *
        generalize sumTo (mL js ls) k = Mk at *
        generalize weightV V = Wv at *
        generalize momV V = Mv at *
        have HN1 := Lib.hid hn1
        have HN2 := Lib.hid hn2
        have HCW := Lib.hid hCW
        have HCM := Lib.hid hCM
        clear hX hrx mg mw ng nw a0 a1 a2 a3 d0 d1 d2 d3 HB R1 R2 hn1 hn2 hCW hCM hsw
        go_wp2_with fail
        have hn1 := Since.nonempty wc
        have t0 := fun (x : Since wc) => (x.cell g1 j (cell_block_lt x5)).trans x5
        have t1 := fun (x : Since wc) => (x.cell b 0 (cell_block_lt hbx)).trans hbx
        refine wp_region_since (by kernel_rfl) (by kernel_rfl) ?_
        repeat (go_big_quiet_step (first
          | (go_at_call 78; exact Since.call (HCW.out _ (HRX.out.below (Since.below _))))))
        refine wpQuiet_nil ?_
        rintro w6 ⟨⟨w6, hb6⟩, rfl⟩
        have y6 := cell_kept y5 hb6
        have b6 := cell_kept hbx hb6
        have s6 := cell_kept s5 hb6
        have HB6 := Lib.hid (HB5.out.trans (hb6.mono HB5.out.size))
        have R16 := Lib.hid (R15.out.below hb6)
        have R26 := Lib.hid (R25.out.below hb6)
        have HRX6 := Lib.hid (HRX.out.below hb6)
        clear t0 t1 hn1 hb6 x5 y5 hbx s5 HB5 R15 R25 HRX
        go_wp2_with fail
        have hn1 := Since.nonempty w6
        have t0 := fun (x : Since w6) => (x.cell g2 j (cell_block_lt y6)).trans y6
        have t1 := fun (x : Since w6) => (x.cell b 0 (cell_block_lt b6)).trans b6
        refine wp_region_since (by kernel_rfl) (by kernel_rfl) ?_
        repeat (go_big_quiet_step (first
          | (go_at_call 79; exact Since.call (HCM.out _ (HRX6.out.below (Since.below _))))))
        refine wpQuiet_nil ?_
        rintro w7 ⟨⟨w7, hb7⟩, rfl⟩
        have s7 := cell_kept s6 hb7
        have HB7 := Lib.hid (HB6.out.trans (hb7.mono HB6.out.size))
        have R17 := Lib.hid (R16.out.below hb7)
        have R27 := Lib.hid (R26.out.below hb7)
        have hh1 := (R16.out.below hb7).lt
        have hh2 := (R26.out.below hb7).lt
        have hwz := HB7.out.size
        clear t0 t1 hn1 hb7 y6 b6 s6 HB6 R16 R26 HRX6
        have H6 := Lib.hid (loadsV_iff.1 HVL.out).2.1
        have HOK := Lib.hid (loadsV_iff.1 HVL.out).2.2
        have HL7 := Lib.hid (HL.out.below HB7.out)
        obtain ⟨X0, hX0⟩ : ∃ X, X = Sj + Wv := ⟨_, rfl⟩
        obtain ⟨Y0, hY0⟩ : ∃ Y, Y = Mj + Mv := ⟨_, rfl⟩
        have hXb : -100000000 ≤ X0 ∧ X0 ≤ 100000000 := by omega
        have hYb : -100000000 ≤ Y0 ∧ Y0 ≤ 100000000 := by omega
        rw [← hX0, ← hY0]
        have HX0 := Lib.hid hX0
        have HY0 := Lib.hid hY0
        clear hX0 hY0 hsj hmj hsk hmk2 hw5 hm5
        go_wp2_with fail
        go_loopw [11, 12, 13] (fun p q t wr => ∃ i : Nat, i ≤ m ∧ t = .int .i64 i ∧ p = .int .i64 (X0 + sumTo (onF ldw ls j) i) ∧ q = .int .i64 (Y0 + sumTo (onF ldm ls j) i) ∧ Below w7.heap.size w7 wr)
          (fun _ _ t _ => m - (intOf t).toNat)
        case atStart => exact ⟨0, Nat.zero_le _, rfl, by simp [sumTo], by simp [sumTo], Below.refl _ _⟩
        case round =>
          obtain ⟨i, hi, rfl, rfl, rfl, hbi⟩ := hrel
          have HBI := Lib.hid hbi
          have hS := onF_bd (f := ldw) (fun l hl => ldw_bd hl) H6.out HOK.out j i (by have := HLEN.out; omega)
          have hM := onF_bd (f := ldm) (fun l hl => ldm_bd hl) H6.out HOK.out j i (by have := HLEN.out; omega)
          by_cases hlt2 : i < m
          · obtain ⟨gl, rfl, -, l0, l1, l2⟩ := (HL7.out.below hbi).at i hlt2
            have hO := ldOk_iff.1 (HOK.out i (by have := HLEN.out; omega))
            have HI1 := Lib.hid (show sumTo (onF ldw ls j) (i + 1) = sumTo (onF ldw ls j) i + onF ldw ls j i from rfl)
            have HI2 := Lib.hid (show sumTo (onF ldm ls j) (i + 1) = sumTo (onF ldm ls j) i + onF ldm ls j i from rfl)
            have HYW := Lib.hid (onF_yes (f := ldw) (ls := ls) (k := j) (i := i))
            have HYM := Lib.hid (onF_yes (f := ldm) (ls := ls) (k := j) (i := i))
            have HNW := Lib.hid (onF_no (f := ldw) (ls := ls) (k := j) (i := i))
            have HNM := Lib.hid (onF_no (f := ldm) (ls := ls) (k := j) (i := i))
            have hw0 : ldw (ld ls i) = (ld ls i).2.1 := rfl
            have hm0 : ldm (ld ls i) = (ld ls i).2.1 * (ld ls i).2.2 := rfl
            rw [hw0] at HYW
            rw [hm0] at HYM
            clear hw0 hm0
            generalize (ld ls i).1 = lx at *
            generalize (ld ls i).2.1 = ly at *
            generalize (ld ls i).2.2 = lz at *
            generalize sumTo (onF ldw ls j) i = LW at *
            generalize sumTo (onF ldm ls j) i = LM at *
            have hmul := mul_bd (x := ly) (y := lz) 10000 60 ⟨by omega, by omega⟩ ⟨by omega, by omega⟩
            obtain ⟨P, hP⟩ : ∃ P, P = ly * lz := ⟨_, rfl⟩
            have hwr : IntKind.i64.wrap (ly * lz) = P := by rw [hP]; exact IntWalk.i64_in _ (by omega)
            rw [← hP] at hmul HYM
            obtain ⟨SX, hSX⟩ : ∃ S, S = X0 + LW := ⟨_, rfl⟩
            obtain ⟨SY, hSY⟩ : ∃ S, S = Y0 + LM := ⟨_, rfl⟩
            have hSXb : -200000000 ≤ SX ∧ SX ≤ 200000000 := by omega
            have hSYb : -200000000 ≤ SY ∧ SY ≤ 200000000 := by omega
            rw [← hSX, ← hSY]
            have HSX := Lib.hid hSX
            have HSY := Lib.hid hSY
            clear hP hSX hSY hS hM hbi hXb hYb
            by_cases hxk : lx = (j : Int)
            · have HY1 := Lib.hid (HYW.out hxk)
              have HY2 := Lib.hid (HYM.out hxk)
              have hq : (lx == (j : Int)) = true := by simp [hxk]
              clear HYW HYM HNW HNM hxk
              go_wp2_with fail
              have hn1 := Since.nonempty wr
              have t1 := fun (x : Since wr) => (x.cell gl (i * 3 + 1) (cell_block_lt l1)).trans l1
              have t2 := fun (x : Since wr) => (x.cell gl (i * 3 + 2) (cell_block_lt l2)).trans l2
              refine wp_region_since (by kernel_rfl) (by kernel_rfl) ?_
              repeat (go_big_quiet_step (fail))
              refine wpQuiet_nil ?_
              rintro w8 ⟨⟨_, hb8⟩, rfl⟩
              have HB8 := Lib.hid (HBI.out.trans (hb8.mono HBI.out.size))
              clear t1 t2 hn1 hb8 l0 l1 l2
              go_wp2_with fail
              go_roundw
              case rel => exact ⟨i + 1, by omega, by go_num, by rw [HI1.out, HY1.out, ← Int.add_assoc, ← HSX.out], by rw [HI2.out, HY2.out, ← Int.add_assoc, ← HSY.out], HB8.out⟩
              case measure => simp [intOf]; omega
            · have HY1 := Lib.hid (HNW.out hxk)
              have HY2 := Lib.hid (HNM.out hxk)
              have hq : (lx == (j : Int)) = false := by simp [hxk]
              clear HYW HYM HNW HNM hxk
              go_wp2_with fail
              go_roundw
              case rel => exact ⟨i + 1, by omega, by go_num, by rw [HI1.out, HY1.out, Int.add_zero, ← HSX.out], by rw [HI2.out, HY2.out, Int.add_zero, ← HSY.out], HBI.out⟩
              case measure => simp [intOf]; omega
          · obtain rfl : i = m := by omega
            have si := cell_kept s7 hbi
            have HBi := Lib.hid (HB7.out.trans (hbi.mono hwz))
            have RA := Lib.hid (R17.out.below hbi)
            have RB := Lib.hid (R27.out.below hbi)
            have hhA := (R17.out.below hbi).lt
            have hhB := (R27.out.below hbi).lt
            have hwi := HBi.out.size
            rw [HX0.out, HY0.out, ← HN1.out, ← HN2.out]
            clear hbi s7 HB7 R17 R27 hh1 hh2 hwz hS hM hXb hYb HL7 HBI
            go_upto_region 16 with (at_builtin; refine wpList_append_lies _ rfl _ _ _ rfl (w.heap.size + 1) 3 i0 _ 1 8 Try.underlying38 hi0 hz0 hz1 hz2 rfl (by omega) (.slice (some ⟨g1, 0, none⟩) k c1) k (sums (wL js ls) k) (by rfl) (World.ownsRow.alloc RA.out _) ⟨wr.heap.size, 0, none⟩ 1 1 [.int .i64 Sk] (by rfl) (by rfl) (World.news_of_block (cs := #[.int .i64 Sk]) (t := 3) (fr := (0, 0)) (heap_alloc_new wr _)) (by simp [Value.oneCell']) (by omega) (by unfold maxLen; omega) (by omega) (by simp; omega) (wr.heap.size + 1) (by simp) ?_; intro g3 c3 w8 hown8 hgrow8 hat8 hgl8; have HO8 := Lib.hid hown8; have HG8 := Lib.hid hgrow8; clear hown8 hgrow8)
            have hx1 := hhA.1
            have hx2 := hhB.1
            have hlA1 := hhA.2.1
            have hlB1 := hhB.2.1
            have h23 : g2 ≠ g3 := by
              rcases hat8 with h | h
              · simp [Value.ownBlock] at h; omega
              · omega
            have r18 : SumRow w8 (w.heap.size + 1) g3 c3 (k + 1) (wL js ls) := by
              have := HO8.out
              rw [← HS1.out] at this
              exact this
            have r28 : SumRow w8 (w.heap.size + 1) g2 c2 k (mL js ls) := SumRow.kept (World.ownsRow.alloc RB.out _) HG8.out (by simp [Value.ownBlock]; omega)
            have s8 : w8.cell? ⟨w.heap.size, 0, none⟩ = some (.slice (some ⟨g, 0, none⟩) n cap) := by
              have l7 := cell_block_lt si
              dsimp only at l7
              rw [World.grownBy.cell_far HG8.out ⟨w.heap.size, 0, none⟩ (by simp; omega) (by simp [Value.ownBlock]; omega), World.cell?_alloc_lt _ _ _ (by simpa using l7)]
              exact si
            have hb8 : Below w.heap.size w w8 := (HBi.out.alloc hwi _).grown HG8.out (by simp; omega) (fun i hi => by simp [Value.ownBlock] at hi; omega)
            have R18 := Lib.hid r18
            have R28 := Lib.hid r28
            have HB8 := Lib.hid hb8
            have hw8 := hb8.size
            have hl82 := r28.lt.2.1
            clear r18 r28 hb8 si RA RB HO8 HG8 HBi hat8
            go_wp2_with (at_builtin; refine wpList_append_lies _ rfl _ _ _ rfl (w.heap.size + 1) 3 i0 _ 1 8 Try.underlying38 hi0 hz0 hz1 hz2 rfl (by omega) (.slice (some ⟨g2, 0, none⟩) k c2) k (sums (mL js ls) k) (by rfl) (World.ownsRow.alloc R28.out _) ⟨w8.heap.size, 0, none⟩ 1 1 [.int .i64 Mk] (by rfl) (by rfl) (World.news_of_block (cs := #[.int .i64 Mk]) (t := 3) (fr := (0, 0)) (heap_alloc_new w8 _)) (by simp [Value.oneCell']) (by omega) (by unfold maxLen; omega) (by omega) (by simp; omega) (w8.heap.size + 1) (by simp) ?_; intro g4 c4 w9 hown9 hgrow9 hat9 hgl9; have HO9 := Lib.hid hown9; have HG9 := Lib.hid hgrow9; clear hown9 hgrow9)
            have h34 : g3 ≠ g4 := by
              rcases hat9 with h | h
              · simp [Value.ownBlock] at h; omega
              · omega
            have r19 : SumRow w9 (w.heap.size + 1) g3 c3 (k + 1) (wL js ls) := SumRow.kept (World.ownsRow.alloc R18.out _) HG9.out (by simp [Value.ownBlock]; omega)
            have r29 : SumRow w9 (w.heap.size + 1) g4 c4 (k + 1) (mL js ls) := by
              have := HO9.out
              rw [← HS2.out] at this
              exact this
            have s9 : w9.cell? ⟨w.heap.size, 0, none⟩ = some (.slice (some ⟨g, 0, none⟩) n cap) := by
              have l8 := cell_block_lt s8
              dsimp only at l8
              rw [World.grownBy.cell_far HG9.out ⟨w.heap.size, 0, none⟩ (by simp; omega) (by simp [Value.ownBlock]; omega), World.cell?_alloc_lt _ _ _ (by simpa using l8)]
              exact s8
            have hb9 : Below w.heap.size w w9 := (HB8.out.alloc hw8 _).grown HG9.out (by simp; omega) (fun i hi => by simp [Value.ownBlock] at hi; omega)
            have R19 := Lib.hid r19
            have R29 := Lib.hid r29
            have HB9 := Lib.hid hb9
            have S9 := Lib.hid s9
            clear r19 r29 hb9 s8 s9 R18 R28 HO9 HG9 HB8 hat9
            go_roundw
            case rel => exact ⟨k + 1, g3, c3, g4, c4, by omega, by omega, by go_num, rfl, rfl, h34, R19.out, R29.out, HB9.out, S9.out⟩
            case measure => simp [intOf]; omega
    · obtain rfl : k = n := by omega
      clear hbw
      go_wp2_with fail
      refine bodyPost_ret (v := .tuple #[.slice (some ⟨g1, 0, none⟩) k c1, .slice (some ⟨g2, 0, none⟩) k c2]) (by simp [results, Try.results54, go_sem]) rfl ⟨g1, c1, g2, c2, rfl, owns_base R1.out (Nat.le_succ _), owns_base R2.out (Nat.le_succ _), HB.out⟩
end Go.Proofs.Ytbmlcfdilopmgaa

/- Marks in a row of loads: what is written is read again. -/
namespace Go.Proofs.Ytbmlcfdilopmgaa
set_option maxRecDepth 100000
open Go.ChangeShapes Go.WideShapes Go.ChangeAt Go.RowKit

/-- The numbers from k on, three for each load. -/
def marksL (k : Int) : Nat → List Ld
  | 0 => []
  | n + 1 => (k, k + 1, k + 1 + 1) :: marksL (k + 3) n
theorem marksL_length (k : Int) (n : Nat) : (marksL k n).length = n := by
  induction n generalizing k with
  | zero => rfl
  | succ n ih => simp [marksL, ih]
theorem marksL_at (k : Int) (n i : Nat) (h : i < n) : ld (marksL k n) i = (k + 3 * i, k + 3 * i + 1, k + 3 * i + 1 + 1) := by
  induction n generalizing k i with
  | zero => omega
  | succ n ih =>
    cases i with
    | zero => simp [marksL, ld]
    | succ i =>
      have := ih (k + 3) i (by omega)
      unfold ld at this ⊢
      simp only [marksL, List.getD_cons_succ]
      rw [this, show k + 3 + 3 * (i : Int) = k + 3 * ((i + 1 : Nat) : Int) by omega]
theorem marksL_next (k : Int) (n : Nat) : marksL k (n + 1) = marksL k n ++ [(k + 3 * n, k + 3 * n + 1, k + 3 * n + 1 + 1)] := by
  induction n generalizing k with
  | zero => simp [marksL]
  | succ n ih =>
    rw [marksL, ih (k + 3), marksL, List.cons_append]
    rw [show k + 3 + 3 * (n : Int) = k + 3 * ((n + 1 : Nat) : Int) by omega]

/-- The cells as far as they have been marked. -/
def ldsMk (ls : List Ld) (k : Int) (i : Nat) : List Ld := marksL k i ++ ls.drop i
theorem ldsMk_zero (ls : List Ld) (k : Int) : ldsMk ls k 0 = ls := rfl
theorem ldsMk_end (ls : List Ld) (k : Int) : ldsMk ls k ls.length = marksL k ls.length := by simp [ldsMk]
theorem ldsMk_length (ls : List Ld) (k : Int) (i : Nat) (h : i ≤ ls.length) : (ldsMk ls k i).length = ls.length := by simp [ldsMk, marksL_length]; omega
theorem ldsMk_set (ls : List Ld) (k : Int) (i : Nat) (h : i < ls.length) : (ldsMk ls k i).set i (k + 3 * i, k + 3 * i + 1, k + 3 * i + 1 + 1) = ldsMk ls k (i + 1) := by
  unfold ldsMk
  rw [List.set_append_right _ _ (by simp [marksL_length]), marksL_length, Nat.sub_self, List.drop_eq_getElem_cons h, List.set_cons_zero, marksL_next, List.append_assoc]
  rfl

theorem grownL_trans {a b c : World} {r : Option Nat} (h : a.grownBy b r) (k : b.grownBy c r) : a.grownBy c r :=
  ⟨k.os.trans h.os, k.tape.trans h.tape, k.output.trans h.output, Nat.le_trans h.size k.size, fun i hi hne => (k.block i (Nat.lt_of_lt_of_le hi h.size) hne).trans (h.block i hi hne)⟩

set_option maxHeartbeats 2000000 in
theorem markLoadFrom (w : World) (s : Int) (hs : 0 ≤ s ∧ s ≤ 1000000000) (B g cap n : Nat) (ls : List Ld) (hr : LRowAt w B g cap ls) (hn : ls.length = n) (hm : n ≤ 1048576) :
    Calls Try.prog 25 #[.slice (some ⟨g, 0, none⟩) n cap, .int .i64 s] w fun e w' => e = .returned (.int .i64 (s + 3 * n)) ∧ LRowAt w' B g cap (marksL s n) ∧ w.grownBy w' (some g) := by
  have HR := Lib.hid hr
  obtain ⟨-, hg, hc, hcm⟩ := hr.lt
  rw [hn] at hc
  unfold maxLen at hcm
  have HN := Lib.hid hn
  clear hr hn
  go_enter Try.func25, Try.ntmps25
  go_wp2_with fail
  go_loopw [1, 5] (fun q t wr => ∃ k : Nat, k ≤ n ∧ t = .int .i64 k ∧ q = .int .i64 (s + 3 * (k : Int)) ∧ LRowAt wr B g cap (ldsMk ls s k) ∧ w.grownBy wr (some g))
    (fun _ t _ => n - (intOf t).toNat)
  case atStart => exact ⟨0, Nat.zero_le _, rfl, by simp, HR.out, World.grownBy.refl _ _⟩
  case round =>
    obtain ⟨k, hk, rfl, rfl, hrow, hgr⟩ := hrel
    have HO := Lib.hid hrow
    have HG := Lib.hid hgr
    have hlN := HN.out
    have hz : g < wr.heap.size := hrow.lt.2.1
    by_cases hlt : k < n
    · have hl := ldsMk_length ls s k (by omega)
      obtain ⟨c0, c1, c2⟩ := hrow.cells k (by omega)
      have f0 := World.ownsRow.frozenAt hrow (k * 3)
      have f1 := World.ownsRow.frozenAt hrow (k * 3 + 1)
      have f2 := World.ownsRow.frozenAt hrow (k * 3 + 2)
      have hs1 := World.ownsRow.stored hrow (k * 3) (.int .i64 (s + 3 * (k : Int)))
      have hs2 := World.ownsRow.stored hs1.1 (k * 3 + 1) (.int .i64 (s + 3 * (k : Int) + 1))
      have hs3 := World.ownsRow.stored hs2.1 (k * 3 + 2) (.int .i64 (s + 3 * (k : Int) + 1 + 1))
      have hrow2 : LRowAt (((wr.setCell ⟨g, k * 3, none⟩ (.int .i64 (s + 3 * (k : Int)))).setCell ⟨g, k * 3 + 1, none⟩ (.int .i64 (s + 3 * (k : Int) + 1))).setCell ⟨g, k * 3 + 2, none⟩ (.int .i64 (s + 3 * (k : Int) + 1 + 1))) B g cap (ldsMk ls s (k + 1)) := by
        have := hs3.1
        rw [flatL_set _ _ _ _ _ (by omega), ldsMk_set ls s k (by omega)] at this
        have hl2 := ldsMk_length ls s (k + 1) (by omega)
        show World.ownsRow _ _ _ _ (.slice _ (ldsMk ls s (k + 1)).length cap) (ldsMk ls s (k + 1)).length _
        rw [hl2, ← hl]
        exact this
      have HO2 := Lib.hid hrow2
      have HG2 := Lib.hid (grownL_trans (grownL_trans (grownL_trans hgr hs1.2) hs2.2) hs3.2)
      generalize (ld (ldsMk ls s k) k).1 = q0 at *
      generalize (ld (ldsMk ls s k) k).2.1 = q1 at *
      generalize (ld (ldsMk ls s k) k).2.2 = q2 at *
      clear hs1 hs2 hs3 hrow2 hrow hgr hlN hl
      go_wp2_with fail
      go_roundw
      case rel => exact ⟨k + 1, by omega, by go_num, by first | rfl | (congr 1; omega), HO2.out, HG2.out⟩
      case measure => simp [intOf]; omega
    · have hkn : k = n := by omega
      rw [hkn] at hrow ⊢
      have hrow2 : LRowAt wr B g cap (marksL s n) := by rw [← hlN, ← ldsMk_end, hlN]; exact hrow
      have HO2 := Lib.hid hrow2
      clear hrow hgr hlN hkn hlt hk hrow2
      go_wp2_with fail
      go_ret
      exact ⟨rfl, HO2.out, HG.out⟩


theorem markLoadNoneFrom (w : World) (s : Int) (a : Option Addr) (cap : Nat) :
    Calls Try.prog 25 #[.slice a 0 cap, .int .i64 s] w fun e w' => e = .returned (.int .i64 s) ∧ w = w' := by
  go_enter Try.func25, Try.ntmps25
  go_wp2_with fail
  refine wp_loop_rounds 1 ?_
  rw [rounds_succ]
  go_wp2
  go_ret
  exact ⟨rfl, rfl⟩
/-- A row of loads is marked from a number on: it alone is written. -/
theorem markLoadsFrom (w : World) (s : Int) (hs : 0 ≤ s ∧ s ≤ 1000000000) (B : Nat) (v : Value) (ls : List Ld) (hr : LRow w B v ls) (hm : ls.length ≤ 1048576) :
    Calls Try.prog 25 #[v, .int .i64 s] w fun e w' => e = .returned (.int .i64 (s + 3 * ls.length)) ∧ LRow w' B v (marksL s ls.length) ∧ w.heap.size ≤ w'.heap.size ∧ w'.os = w.os ∧ w'.tape = w.tape ∧ w'.output = w.output ∧
      ∀ (b : Nat), b < w.heap.size → some b ≠ v.ownBlock → w'.heap[b]? = w.heap[b]? := by
  rcases hr.cases' with ⟨rfl, rfl⟩ | ⟨g, cap, rfl, r, -⟩
  · refine (markLoadNoneFrom _ s _ _).mono ?_
    rintro e w1 ⟨rfl, rfl⟩
    exact ⟨by simp, LRow.nil _ _, Nat.le_refl _, rfl, rfl, rfl, fun b hbl _ => rfl⟩
  · refine (markLoadFrom _ s hs B g cap _ ls r rfl hm).mono ?_
    rintro e w1 ⟨rfl, hrow, hgr⟩
    refine ⟨rfl, ?_, hgr.size, hgr.os, hgr.tape, hgr.output, fun b hbl hne => hgr.block b hbl hne⟩
    have := hrow.row
    rw [marksL_length] at this
    exact this

/-- A row of loads is marked: it alone is written. -/
theorem markLoads (w : World) (B : Nat) (v : Value) (ls : List Ld) (hr : LRow w B v ls) (hm : ls.length ≤ 1048576) :
    Calls Try.prog 25 #[v, .int .i64 1] w fun e w' => e = .returned (.int .i64 (1 + 3 * ls.length)) ∧ LRow w' B v (marksL 1 ls.length) ∧ w.heap.size ≤ w'.heap.size ∧ w'.os = w.os ∧ w'.tape = w.tape ∧ w'.output = w.output ∧
      ∀ (b : Nat), b < w.heap.size → some b ≠ v.ownBlock → w'.heap[b]? = w.heap[b]? := markLoadsFrom w 1 ⟨by omega, by omega⟩ B v ls hr hm

end Go.Proofs.Ytbmlcfdilopmgaa
