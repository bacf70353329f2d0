/- Lists of stones in the laws: as they come in, their size, their copy, the comparison; rows of stones of the program's own. -/
import Derived.Test.YtikdjcmdeapikaaStoneL
import Derived.Deep.Slices
namespace Go.Proofs.Ytikdjcmdeapikaa
open Go.ChangeShapes Go.WideShapes Go.ChangeAt Go.RowKit Go.Joins Go.Deep

/-- A stone of a list that came in: where its corners lie, their number, their room, themselves. -/
abbrev El := Option Addr × Nat × Nat × List (Int × Int)
def El.val (e : El) : Value := .slice e.1 e.2.1 e.2.2.1
def el (es : List El) (i : Nat) : El := es.getD i (none, 0, 0, [])
/-- A list's stone at an index. -/
def st (css : List (List (Int × Int))) (i : Nat) : List (Int × Int) := css.getD i []
/-- The corners of a list that came in. -/
def cor (es : List El) : List (List (Int × Int)) := es.map fun e => e.2.2.2
theorem cor_length (es : List El) : (cor es).length = es.length := by simp [cor]
theorem st_cor (es : List El) (i : Nat) : st (cor es) i = (el es i).2.2.2 := by
  unfold st cor el
  rw [List.getD_eq_getElem?_getD, List.getD_eq_getElem?_getD, List.getElem?_map]
  cases es[i]? <;> rfl

def InStones (w : World) (a : Option Addr) (n cap : Nat) (es : List El) : Prop :=
  es.length = n ∧ n ≤ cap ∧ cap ≤ maxLen ∧ (∀ i, i < n → InPts w (el es i).1 (el es i).2.1 (el es i).2.2.1 (el es i).2.2.2) ∧
  ((a = none ∧ n = 0 ∧ cap = 0) ∨ ∃ x, a = some x ∧ ∀ i, i < n → w.cell? (x.add i) = some (el es i).val)

theorem InStones.below {w w' : World} {a : Option Addr} {n cap : Nat} {es : List El} (h : InStones w a n cap es) (hb : Below w.heap.size w w') : InStones w' a n cap es := by
  obtain ⟨h1, h2, h3, h4, h5⟩ := h
  refine ⟨h1, h2, h3, fun i hi => (h4 i hi).below hb, h5.imp id ?_⟩
  rintro ⟨x, rfl, hx⟩
  exact ⟨x, rfl, fun i hi => (hb.cell (cell_block_lt (hx i hi))).trans (hx i hi)⟩

theorem els_of {n : Nat} {q : Nat → El → Prop} (h : ∀ i, i < n → ∃ p, q i p) : ∃ es : List El, es.length = n ∧ ∀ i, i < n → q i (el es i) := by
  induction n with
  | zero => exact ⟨[], rfl, fun i hi => absurd hi (Nat.not_lt_zero i)⟩
  | succ n ih =>
    obtain ⟨cs, hl, hq⟩ := ih fun i hi => h i (by omega)
    obtain ⟨p, hp⟩ := h n (by omega)
    refine ⟨cs ++ [p], by simp [hl], fun i hi => ?_⟩
    by_cases he : i < n
    · have := hq i he
      unfold el at this ⊢
      rw [List.getD_eq_getElem?_getD, List.getElem?_append_left (by omega), ← List.getD_eq_getElem?_getD]
      exact this
    · obtain rfl : i = n := by omega
      unfold el
      rw [List.getD_eq_getElem?_getD, List.getElem?_append_right (by omega), hl]
      simpa using hp

/-- A list of stones that came in. -/
theorem open_stones {H : Type} {enc : TypeId × Value → H} {w : World} {r : Reach} {b0 base : Nat} {spare : Nat → Bool} {held : Bool} {v : Value} {d : DataW H} {p : List MemPlace}
    (hv : Value.okWide Try.prog w r b0 46 v) (h : DataW.Trod enc Try.prog w base spare held 46 v d p) :
    ∃ (a : Option Addr) (n cap : Nat) (es : List El), v = .slice a n cap ∧ InStones w a n cap es := by
  obtain ⟨a, len, cap, rfl⟩ := okWide_slice Try.underlying46 hv
  obtain ⟨fuel, hf⟩ := h
  have hf1 : DataW.trod enc Try.prog w base spare held fuel 46 [.slice a len cap] = some (d, p) := by simpa [Value.cells] using hf
  rcases open_slice1 Try.underlying46 cellsStoneL hf1 with ⟨hc, _⟩ | ⟨ad, len', cap', m, fu, V, D, Pl, hc, _, hl, hm, hmm, _, hcell⟩
  · simp at hc
    obtain ⟨rfl, rfl, rfl⟩ := hc
    exact ⟨none, 0, 0, [], rfl, rfl, Nat.le_refl _, Nat.zero_le _, fun i hi => absurd hi (Nat.not_lt_zero i), .inl ⟨rfl, rfl, rfl⟩⟩
  · simp at hc
    obtain ⟨rfl, rfl, rfl⟩ := hc
    have hlm : len ≤ m := by rw [hmm]; split <;> omega
    obtain ⟨es, hel, hq⟩ := els_of (n := len) (q := fun i e => w.cell? (ad.add i) = some e.val ∧ InPts w e.1 e.2.1 e.2.2.1 e.2.2.2) (fun i hi => by
      obtain ⟨h0, h1⟩ := hcell i (by omega)
      obtain ⟨a, n, cap, cs, e0, hin⟩ := stone_cell h1
      exact ⟨(a, n, cap, cs), by rw [h0, e0]; rfl, hin⟩)
    exact ⟨some ad, len, cap, es, rfl, hel, hl, hm, fun i hi => (hq i hi).2, .inr ⟨ad, rfl, fun i hi => (hq i hi).1⟩⟩

/-! ### Sizes -/
/-- What szStone answers, of whatever is left. -/
def szW (n : Nat) (L : Int) : Int := if (n : Int) ≤ L then L - n else -1
theorem szW_bd {n : Nat} {L : Int} (h : 0 ≤ L ∧ L ≤ 1048576) : -1 ≤ szW n L ∧ szW n L ≤ 1048576 ∧ (0 ≤ szW n L → n ≤ 1048576) := by unfold szW; split <;> omega

theorem szPointW (a : Option Addr) (n cap : Nat) (L : Int) (w : World) (hn : n ≤ maxLen) (hL : 0 ≤ L ∧ L ≤ 1048576) :
    Calls Try.prog 44 #[.slice a n cap, .int .i64 L] w fun e w' => e = .returned (.int .i64 (szW n L)) ∧ w = w' := by
  unfold maxLen at hn
  obtain ⟨hL0, hL1⟩ := hL
  by_cases h : (n : Int) ≤ L
  · go_enter Try.func44, Try.ntmps44
    go_wp2
    go_ret
    exact ⟨ret_i64 (by unfold szW; rw [if_pos h]), rfl⟩
  · go_enter Try.func44, Try.ntmps44
    go_wp2
    go_ret
    exact ⟨ret_i64 (by unfold szW; rw [if_neg (by omega)]), rfl⟩

theorem szStoneW (a : Option Addr) (n cap : Nat) (L : Int) (w : World) (hn : n ≤ maxLen) (hL : 0 ≤ L ∧ L ≤ 1048576) :
    Calls Try.prog 21 #[.agg #[.slice a n cap], .int .i64 L] w fun e w' => e = .returned (.int .i64 (szW n L)) ∧ Below w.heap.size w w' := by
  have hv := szW_bd (n := n) hL
  have HL := Lib.hid hL
  by_cases h : szW n L < 0
  · have hV : szW n L = -1 := by omega
    have HV := Lib.hid hV
    generalize hU : szW n L = V at *
    have HU := Lib.hid hU
    clear hU hV
    go_enter Try.func21, Try.ntmps21
    go_wp2_with fail
    refine (szPointW _ _ _ _ _ hn HL.out).mono ?_
    rintro e w1 ⟨rfl, rfl⟩
    rw [HU.out]
    go_wp2_with fail
    go_ret
    exact ⟨ret_i64 HV.out.symm, by repeat (first | exact Below.refl _ _ | refine Below.alloc ?_ (by simp <;> omega) _)⟩
  · generalize hU : szW n L = V at *
    have HU := Lib.hid hU
    clear hU
    go_enter Try.func21, Try.ntmps21
    go_wp2_with fail
    refine (szPointW _ _ _ _ _ hn HL.out).mono ?_
    rintro e w1 ⟨rfl, rfl⟩
    rw [HU.out]
    go_wp2_with fail
    go_ret
    exact ⟨rfl, by repeat (first | exact Below.refl _ _ | refine Below.alloc ?_ (by simp <;> omega) _)⟩

/-- What is known behind szStoneS: too large, or all of it is small. -/
def SzOk (n : Nat) (es : List El) (r : Int) : Prop := r = -1 ∨ (0 ≤ r ∧ r ≤ 1048576 ∧ n ≤ 1048576 ∧ ∀ i, i < n → (el es i).2.1 ≤ 1048576)

set_option maxHeartbeats 1000000 in
theorem szStoneS (a : Option Addr) (n cap : Nat) (es : List El) (w : World) (h : InStones w a n cap es) :
    Calls Try.prog 29 #[.slice a n cap, .int .i64 1048576] w fun e w' => ∃ r, e = .returned (.int .i64 r) ∧ SzOk n es r ∧ Below w.heap.size w w' := by
  have HI := Lib.hid h
  obtain ⟨hl, hc, hm, -, hcase⟩ := h
  have hX : ∃ ad : Addr, 0 < n → a = some ad ∧ ∀ i, i < n → w.cell? (ad.add i) = some (el es i).val := by
    rcases hcase with ⟨rfl, h0, -⟩ | ⟨x, rfl, hx⟩
    · exact ⟨⟨0, 0, none⟩, fun h => absurd h (by omega)⟩
    · exact ⟨x, fun _ => ⟨rfl, hx⟩⟩
  clear hcase hl
  unfold maxLen at hm
  obtain ⟨ad, hX⟩ := hX
  have HX := Lib.hid hX
  clear hX
  by_cases hbig : 1048576 < n
  · go_enter Try.func29, Try.ntmps29
    go_wp2_with fail
    go_ret
    exact ⟨_, rfl, .inl rfl, Below.refl _ _⟩
  go_enter Try.func29, Try.ntmps29
  go_wp2_with fail
  go_loopw [1, 5] (fun q t wr => ∃ (k : Nat) (L : Int), k ≤ n ∧ t = .int .i64 k ∧ q = .int .i64 L ∧ 0 ≤ L ∧ L ≤ 1048576 ∧ (∀ i, i < k → (el es i).2.1 ≤ 1048576) ∧ Below w.heap.size w wr)
    (fun _ t _ => n - (intOf t).toNat)
  case atStart => exact ⟨0, _, Nat.zero_le _, rfl, rfl, by omega, by omega, fun i hi => absurd hi (Nat.not_lt_zero i), Below.refl _ _⟩
  case round =>
    obtain ⟨k, L, hk, rfl, rfl, hL0, hL1, hall, hbw⟩ := hrel
    have HB := Lib.hid hbw
    have HA := Lib.hid hall
    clear hall
    by_cases hlt : k < n
    · obtain ⟨rfl, hcell⟩ := HX.out (by omega)
      have q0 := hcell k hlt
      have hadlt := cell_block_lt q0
      rw [adb] at hadlt
      have r0 : wr.cell? (ad.add k) = some (el es k).val := by rw [hbw.cell (by rw [adb]; exact hadlt)]; exact q0
      have hpm : (el es k).2.1 ≤ maxLen := Nat.le_trans (HI.out.2.2.2.1 k hlt).2.1 (HI.out.2.2.2.1 k hlt).2.2.1
      have hb := szW_bd (n := (el es k).2.1) ⟨hL0, hL1⟩
      unfold El.val at r0
      clear q0 hcell hbw
      have HK := Lib.hid (show (el es k).2.1 = (el es k).2.1 from rfl)
      obtain ⟨m, hmk⟩ : ∃ m, (el es k).2.1 = m := ⟨_, rfl⟩
      rw [hmk] at r0 hpm hb
      have HMK := Lib.hid hmk
      clear HK hmk
      generalize (el es k).1 = pa at *
      generalize (el es k).2.2.1 = pc at *
      obtain ⟨V, hV⟩ : ∃ V, szW m L = V := ⟨_, rfl⟩
      rw [hV] at hb
      obtain ⟨hb0, hb1, hb2⟩ := hb
      have HV := Lib.hid hV
      have HP := Lib.hid hpm
      have HB2 := Lib.hid hb2
      clear hV hpm hb2
      by_cases hneg : V < 0
      · go_wp2_with fail
        refine (szStoneW _ _ _ _ _ HP.out ⟨hL0, hL1⟩).mono ?_
        rintro e w1 ⟨rfl, hb⟩
        rw [HV.out]
        have HBB := Lib.hid (HB.out.trans (hb.mono HB.out.size))
        clear hb
        go_wp2_with fail
        go_ret
        exact ⟨_, rfl, .inl rfl, HBB.out⟩
      · go_wp2_with fail
        refine (szStoneW _ _ _ _ _ HP.out ⟨hL0, hL1⟩).mono ?_
        rintro e w1 ⟨rfl, hb⟩
        rw [HV.out]
        have HBB := Lib.hid (HB.out.trans (hb.mono HB.out.size))
        clear hb r0
        go_wp2_with fail
        go_roundw
        case rel =>
          refine ⟨k + 1, V, by omega, by go_num, rfl, by omega, by omega, fun i hi => ?_, HBB.out⟩
          by_cases hik : i < k
          · exact HA.out i hik
          · obtain rfl : i = k := by omega
            rw [HMK.out]
            exact HB2.out (by omega)
        case measure => simp [intOf]; omega
    · obtain rfl : k = n := by omega
      clear hbw
      go_wp2_with fail
      go_ret
      exact ⟨_, rfl, .inr ⟨by omega, by omega, by omega, HA.out⟩, HB.out⟩

/-! ### Rows of stones -/
/-- A slice of stones in a row of the program's own; each stone's corners too. -/
def SRow (w : World) (B : Nat) (v : Value) (css : List (List (Int × Int))) : Prop :=
  ∃ vs : List Value, vs.length = css.length ∧ w.ownsRow B 26 1 v css.length vs ∧ ∀ i, i < css.length → Row w B (vs.getD i (.slice none 0 0)) (st css i)

theorem row_slice' {w : World} {B : Nat} {v : Value} {cs : List (Int × Int)} (h : Row w B v cs) : ∃ a cap, v = .slice a cs.length cap ∧ cs.length ≤ maxLen := by
  rcases h.cases with ⟨rfl, rfl⟩ | ⟨g, cap, rfl, -, -, -, h1, h2⟩
  · exact ⟨_, _, rfl, Nat.zero_le _⟩
  · exact ⟨_, _, rfl, Nat.le_trans h1 h2⟩
theorem SRow.below {w w' : World} {B : Nat} {v : Value} {css : List (List (Int × Int))} (h : SRow w B v css) (hb : Below w.heap.size w w') : SRow w' B v css := by
  obtain ⟨vs, h1, h2, h3⟩ := h
  exact ⟨vs, h1, owns_below h2 hb, fun i hi => (h3 i hi).below hb⟩
theorem SRow.base {w : World} {B B' : Nat} {v : Value} {css : List (List (Int × Int))} (h : SRow w B v css) (hb : B' ≤ B) : SRow w B' v css := by
  obtain ⟨vs, h1, h2, h3⟩ := h
  exact ⟨vs, h1, owns_base h2 hb, fun i hi => (h3 i hi).base hb⟩
/-- The row's value. -/
theorem SRow.slice {w : World} {B : Nat} {v : Value} {css : List (List (Int × Int))} (h : SRow w B v css) : ∃ a cap, v = .slice a css.length cap ∧ css.length ≤ cap ∧ cap ≤ maxLen ∧ (0 < css.length → ∃ g, a = some ⟨g, 0, none⟩ ∧ g < w.heap.size) := by
  obtain ⟨vs, -, h2, -⟩ := h
  rcases h2.2 with ⟨rfl, hz⟩ | ⟨g, cap, cur, rfl, hB, hg, hc, hm, -⟩
  · exact ⟨none, 0, by rw [hz], by omega, Nat.zero_le _, fun h => by omega⟩
  · exact ⟨_, cap, rfl, hc, hm, fun _ => ⟨g, rfl, (Array.getElem?_eq_some_iff.1 hg).1⟩⟩
/-- The cell of a stone, and its corners. -/
theorem SRow.at {w : World} {B g n cap : Nat} {css : List (List (Int × Int))} (h : SRow w B (.slice (some ⟨g, 0, none⟩) n cap) css) (hn : css.length = n) (k : Nat) (hk : k < n) :
    ∃ a m c, w.cell? ⟨g, k, none⟩ = some (.slice a m c) ∧ Row w B (.slice a m c) (st css k) := by
  obtain ⟨vs, h1, h2, h3⟩ := h
  obtain ⟨a, c, hv, -⟩ := row_slice' (h3 k (by omega))
  refine ⟨a, _, c, ?_, by have := h3 k (by omega); rw [hv] at this; exact this⟩
  rw [hn] at h2
  rw [World.ownsRow.cellAt h2 k (by omega), ← hv, List.getD_eq_getElem?_getD, List.getElem?_eq_getElem (by omega)]
  rfl

theorem made_zeroS (n : Nat) : (madeCells (Value.agg #[.slice none 0 0]).cells (n * 1)).toList = List.replicate n (Value.slice none 0 0) := by
  unfold madeCells
  rw [Array.toList_map]
  refine List.ext_getElem (by simp) fun i h1 h2 => ?_
  rw [List.getElem_map, List.getElem_replicate]
  simp [Value.cells, Nat.mod_one]

theorem Try.infoSt : (Try.prog.info? 26).map (fun i => (i.zero, i.size, i.bytes)) = some (some (.agg #[.slice none 0 0]), 1, 24) := by kernel_rfl

/-- A stone that has been copied. -/
def Copied (w : World) (H : Nat) (v : Value) (cs : List (Int × Int)) : Prop := ∃ g, H < g ∧ v = .slice (some ⟨g, 0, none⟩) cs.length cs.length ∧ RowAt w H g cs.length cs
theorem Copied.below {w w' : World} {H : Nat} {v : Value} {cs : List (Int × Int)} (h : Copied w H v cs) (hb : Below w.heap.size w w') : Copied w' H v cs := by
  obtain ⟨g, h1, h2, h3⟩ := h
  exact ⟨g, h1, h2, h3.below hb⟩
theorem Copied.setCell {w : World} {H : Nat} {v : Value} {cs : List (Int × Int)} (h : Copied w H v cs) (o : Nat) (u : Value) : Copied (w.setCell ⟨H, o, none⟩ u) H v cs := by
  obtain ⟨g, h1, h2, h3⟩ := h
  exact ⟨g, h1, h2, h3.setCell H o (by omega) u⟩

theorem set_next (done : List Value) (N k : Nat) (z v : Value) (hd : done.length = k) (hk : k < N) : (done ++ List.replicate (N - k) z).set k v = (done ++ [v]) ++ List.replicate (N - (k + 1)) z := by
  rw [show N - k = N - (k + 1) + 1 by omega, List.replicate_succ, List.set_append_right _ _ (by omega), hd, Nat.sub_self, List.set_cons_zero, List.append_assoc]
  rfl

set_option maxHeartbeats 1000000 in
theorem toStoneS (a : Option Addr) (n cap : Nat) (es : List El) (w : World) (h : InStones w a n cap es) (hn : n ≤ 1048576) (hs : ∀ i, i < n → (el es i).2.1 ≤ 1048576) :
    Calls Try.prog 31 #[.slice a n cap] w fun e w' => e = .returned (.slice (some ⟨w.heap.size, 0, none⟩) n n) ∧ SRow w' w.heap.size (.slice (some ⟨w.heap.size, 0, none⟩) n n) (cor es) ∧ Below w.heap.size w w' := by
  obtain ⟨i0, hi, hz0, hz1, hz2⟩ := info_parts Try.infoSt
  have HI := Lib.hid h
  obtain ⟨hl, hc, hm, -, hcase⟩ := h
  have hX : ∃ ad : Addr, 0 < n → a = some ad ∧ ∀ i, i < n → w.cell? (ad.add i) = some (el es i).val := by
    rcases hcase with ⟨rfl, h0, -⟩ | ⟨x, rfl, hx⟩
    · exact ⟨⟨0, 0, none⟩, fun h => absurd h (by omega)⟩
    · exact ⟨x, fun _ => ⟨rfl, hx⟩⟩
  clear hcase
  unfold maxLen at hm
  have HSM := Lib.hid hs
  have HL := Lib.hid hl
  clear hs hl
  go_enter Try.func31, Try.ntmps31
  go_wp2_with (at_make; refine wpList_make_full _ rfl _ _ 37 rfl w.heap.size 26 i0 (.agg #[.slice none 0 0]) 1 Try.underlying37 hi hz0 hz1 .i64 .i64 _ _ n rfl rfl rfl rfl (by rw [hz2]; omega) (by unfold maxLen; omega) (Nat.le_refl _) ?_; intro w0 hown0 hgrow0)
  rw [made_zeroS] at hown0
  have hb0 : Below w.heap.size w w0 := (Below.refl _ _).grown hgrow0 (Nat.le_refl _) (fun k hk => by cases hk)
  clear hgrow0
  obtain ⟨ad, hX⟩ := hX
  have HX := Lib.hid hX
  clear hX
  go_loopw [4] (fun t wr => ∃ (k : Nat) (done : List Value), k ≤ n ∧ t = .int .i64 k ∧ done.length = k ∧ wr.ownsRow w.heap.size 26 1 (.slice (some ⟨w.heap.size, 0, none⟩) n n) n (done ++ List.replicate (n - k) (.slice none 0 0)) ∧
      (∀ i, i < k → Copied wr w.heap.size (done.getD i (.slice none 0 0)) (st (cor es) i)) ∧ Below w.heap.size w wr)
    (fun t _ => n - (intOf t).toNat)
  case atStart => exact ⟨0, [], Nat.zero_le _, rfl, rfl, hown0, fun i hi => absurd hi (Nat.not_lt_zero i), hb0⟩
  case round =>
    obtain ⟨k, done, hk, rfl, hd, hown, hall, hbw⟩ := hrel
    have HO := Lib.hid hown
    have HB := Lib.hid hbw
    have HA := Lib.hid hall
    have HD := Lib.hid hd
    clear hd hall
    by_cases hlt : k < n
    · obtain ⟨rfl, hcell⟩ := HX.out (by omega)
      have q0 := hcell k hlt
      have hadlt := cell_block_lt q0
      rw [adb] at hadlt
      have r0 : wr.cell? (ad.add k) = some (el es k).val := by rw [hbw.cell (by rw [adb]; exact hadlt)]; exact q0
      have hin := (HI.out.2.2.2.1 k hlt).below hbw
      have hsm := HSM.out k hlt
      have hst := st_cor es k
      have hcl := hin.1
      rw [← hst] at hin hcl
      unfold El.val at r0
      clear q0 hcell hown hbw hst
      generalize (el es k).1 = pa at *
      generalize (el es k).2.1 = m at *
      generalize (el es k).2.2.1 = pc at *
      have HIN := Lib.hid hin
      have HSM2 := Lib.hid hsm
      have HCL := Lib.hid hcl
      clear hin hsm hcl
      go_wp2_with fail
      refine (toStone _ _ _ _ _ HIN.out HSM2.out).mono ?_
      rintro e w1 ⟨g1, hg1, rfl, ra, hb1⟩
      have hz := HB.out.size
      have ho1 := owns_below HO.out hb1
      have c0 : w1.cell? ⟨w.heap.size, k, none⟩ = some (.slice none 0 0) := (World.ownsRow.cellAt ho1 k (by omega)).trans (by rw [List.getElem?_append_right (by rw [HD.out]; omega), HD.out, Nat.sub_self, List.getElem?_replicate, if_pos (by omega)])
      have f0 := World.ownsRow.frozenAt ho1 k
      have ho2 := (World.ownsRow.stored ho1 k (.slice (some ⟨g1, 0, none⟩) m m)).1
      rw [set_next done n k _ _ HD.out hlt] at ho2
      have hbb : Below w.heap.size w (w1.setCell ⟨w.heap.size, k, none⟩ (.slice (some ⟨g1, 0, none⟩) m m)) := (HB.out.trans (hb1.mono HB.out.size)).setCell (p := ⟨w.heap.size, k, none⟩) (Nat.le_refl _) _
      have hlz : w.heap.size < wr.heap.size := by have := World.ownsRow.lt HO.out w.heap.size rfl; exact this.2
      have hnew : Copied w1 w.heap.size (.slice (some ⟨g1, 0, none⟩) m m) (st (cor es) k) := ⟨g1, by omega, by rw [HCL.out], by rw [HCL.out]; exact ra.base hz⟩
      have hall2 : ∀ i, i < k + 1 → Copied (w1.setCell ⟨w.heap.size, k, none⟩ (.slice (some ⟨g1, 0, none⟩) m m)) w.heap.size ((done ++ [Value.slice (some ⟨g1, 0, none⟩) m m]).getD i (.slice none 0 0)) (st (cor es) i) := fun i hi => by
        refine Copied.setCell ?_ _ _
        by_cases hik : i < k
        · rw [List.getD_eq_getElem?_getD, List.getElem?_append_left (by rw [HD.out]; exact hik), ← List.getD_eq_getElem?_getD]
          exact (HA.out i hik).below hb1
        · obtain rfl : i = k := by omega
          rw [List.getD_eq_getElem?_getD, List.getElem?_append_right (by rw [HD.out]; omega), HD.out, Nat.sub_self]
          exact hnew
      have HO2 := Lib.hid ho2
      have HBB := Lib.hid hbb
      have HA2 := Lib.hid hall2
      clear ho1 ho2 hbb hnew hall2 hb1 ra r0
      go_wp2_with fail
      go_roundw
      case rel => exact ⟨k + 1, done ++ [Value.slice (some ⟨g1, 0, none⟩) m m], by omega, by go_num, by rw [List.length_append, HD.out]; rfl, HO2.out, HA2.out, HBB.out⟩
      case measure => simp [intOf]; omega
    · obtain rfl : k = n := by omega
      clear hown hbw
      go_wp2_with fail
      go_ret
      have hlN : (cor es).length = k := by rw [cor_length]; exact HL.out
      refine ⟨rfl, ⟨done, by rw [HD.out, hlN], ?_, fun i hi => ?_⟩, HB.out⟩
      · have := HO.out
        rw [Nat.sub_self, List.replicate_zero, List.append_nil] at this
        rw [hlN]
        exact this
      · obtain ⟨g, -, e1, e2⟩ := HA.out i (by omega)
        rw [e1]
        exact e2.row

set_option maxHeartbeats 1000000 in
theorem eqStoneS_same (w : World) (B1 B2 : Nat) (v1 v2 : Value) (css : List (List (Int × Int))) (h1 : SRow w B1 v1 css) (h2 : SRow w B2 v2 css) :
    Calls Try.prog 32 #[v1, v2] w fun e w' => e = .returned (.bool true) ∧ Below w.heap.size w w' := by
  obtain ⟨a1, cap1, rfl, hc1, hm1, hg1⟩ := h1.slice
  obtain ⟨a2, cap2, rfl, hc2, hm2, hg2⟩ := h2.slice
  generalize hN : css.length = n at *
  unfold maxLen at hm1
  have H1 := Lib.hid h1
  have H2 := Lib.hid h2
  have HN := Lib.hid hN
  have G1 := Lib.hid hg1
  have G2 := Lib.hid hg2
  clear h1 h2 hN hg1 hg2 hm2
  go_enter Try.func32, Try.ntmps32
  go_wp2_with fail
  go_loopw [5] (fun t wr => ∃ k : Nat, k ≤ n ∧ t = .int .i64 k ∧ Below w.heap.size w wr)
    (fun t _ => n - (intOf t).toNat)
  case atStart => exact ⟨0, Nat.zero_le _, rfl, Below.refl _ _⟩
  case round =>
    obtain ⟨k, hk, rfl, hbw⟩ := hrel
    have HB := Lib.hid hbw
    by_cases hlt : k < n
    · obtain ⟨g1, rfl, -⟩ := G1.out (by omega)
      obtain ⟨g2, rfl, -⟩ := G2.out (by omega)
      obtain ⟨pa, pm, pc, c1, r1⟩ := (H1.out.below hbw).at HN.out k hlt
      obtain ⟨qa, qm, qc, c2, r2⟩ := (H2.out.below hbw).at HN.out k hlt
      have R1 := Lib.hid r1
      have R2 := Lib.hid r2
      have l1 := cell_block_lt c1
      have l2 := cell_block_lt c2
      clear hbw r1 r2
      go_wp2_with fail
      have hn1 := Since.nonempty wr
      have hz := HB.out.size
      have sa := fun (x : Since wr) => (x.cell g1 k l1).trans c1
      have sb := fun (x : Since wr) => (x.cell g2 k l2).trans c2
      refine wp_region_since (by kernel_rfl) (by kernel_rfl) ?_
      repeat (go_big_quiet_step (first
        | (go_at_call 24; exact Since.call (eqStone_same _ _ _ _ _ (st css k) (R1.out.below (Since.below _)) (R2.out.below (Since.below _))))))
      refine wpQuiet_nil ?_
      rintro w2 ⟨⟨_, hb2⟩, rfl⟩
      have HB2 := Lib.hid (HB.out.trans (hb2.mono hz))
      clear sa sb hb2 c1 c2 l1 l2
      go_wp2_with fail
      go_roundw
      case rel => exact ⟨k + 1, by omega, by go_num, HB2.out⟩
      case measure => simp [intOf]; omega
    · obtain rfl : k = n := by omega
      clear hbw
      go_wp2_with fail
      go_ret
      exact ⟨rfl, HB.out⟩
end Go.Proofs.Ytikdjcmdeapikaa
