/- Rows of rows of two ints of a call's own: their comparison and their marks in the laws. -/
import Derived.Test.YtbmlcfdilopmgaaGFour
import Derived.Deep.RegionHeld3
namespace Go.Proofs.Ytbmlcfdilopmgaa
set_option maxRecDepth 100000
set_option linter.unusedVariables false
set_option linter.unusedSimpArgs false
open Go.ChangeShapes Go.WideShapes Go.ChangeAt Go.RowKit

/-- The rows of two ints in these blocks. -/
def twos (gs : List Nat) : List Value := gs.map fun g => .slice (some ⟨g, 0, none⟩) 2 2
theorem twos_length (gs : List Nat) : (twos gs).length = gs.length := by simp [twos]
theorem twos_at (gs : List Nat) (i : Nat) (h : i < gs.length) : (twos gs)[i]? = some (.slice (some ⟨gs.getD i 0, 0, none⟩) 2 2) := by
  unfold twos; rw [List.getElem?_map, List.getD_eq_getElem?_getD, List.getElem?_eq_getElem h]; rfl
theorem twos_append (gs : List Nat) (g : Nat) : twos (gs ++ [g]) = twos gs ++ [.slice (some ⟨g, 0, none⟩) 2 2] := by unfold twos; rw [List.map_append]; rfl
def twoI (q : Int × Int) : List Int := [q.1, q.2]

/-- A row of a call's own of rows of two ints of its own, each in a block of its own. -/
structure QQ (w : World) (B : Nat) (v : Value) (gs : List Nat) (l : List (Int × Int)) : Prop where
  len : gs.length = l.length
  row : w.ownsRow B 38 1 v gs.length (twos gs)
  two : ∀ i, i < gs.length → InRow w B (.slice (some ⟨gs.getD i 0, 0, none⟩) 2 2) (twoI (pt l i))
  up : ∀ i j, i < j → j < gs.length → gs.getD i 0 < gs.getD j 0
theorem two_ge {w : World} {B g : Nat} {l : List Int} (h : InRow w B (.slice (some ⟨g, 0, none⟩) 2 2) l) : B ≤ g ∧ g < w.heap.size := by
  rcases h.2 with ⟨h1, -⟩ | ⟨g', cap', cur, h1, hB, hg, -⟩
  · simp at h1
  · simp at h1; obtain ⟨rfl, -⟩ := h1; exact ⟨hB, by have := (Array.getElem?_eq_some_iff.1 hg).1; exact this⟩
theorem QQ.below {w w' : World} {B : Nat} {v : Value} {gs : List Nat} {l : List (Int × Int)} (h : QQ w B v gs l) (hb : Below w.heap.size w w') : QQ w' B v gs l :=
  ⟨h.len, owns_below h.row hb, fun i hi => (h.two i hi).below hb, h.up⟩
theorem QQ.base {w : World} {B B' : Nat} {v : Value} {gs : List Nat} {l : List (Int × Int)} (h : QQ w B v gs l) (hb : B' ≤ B) : QQ w B' v gs l :=
  ⟨h.len, owns_base h.row hb, fun i hi => (h.two i hi).base hb, h.up⟩
theorem QQ.nil (w : World) (B : Nat) : QQ w B (.slice none 0 0) [] [] := ⟨rfl, World.ownsRow_nil w B _ _, fun i hi => absurd hi (Nat.not_lt_zero i), fun i j _ hj => absurd hj (Nat.not_lt_zero j)⟩
theorem qq_empty (w : World) (B : Nat) (hB : B ≤ w.heap.size) : QQ (w.alloc (.cells #[] 38)) B (.slice (some ⟨w.heap.size, 0, none⟩) 0 0) [] [] :=
  ⟨rfl, World.ownsRow_lit (base := B) (e := 38) (size := 1) w #[] 0 hB (Nat.zero_le _) rfl, fun i hi => absurd hi (Nat.not_lt_zero i), fun i j _ hj => absurd hj (Nat.not_lt_zero j)⟩
/-- Rows of two types have two blocks. -/
theorem own_two {w : World} {B1 B2 s1 s2 n1 n2 : Nat} {e1 e2 : TypeId} {v1 v2 : Value} {xs1 xs2 : List Value} (h1 : w.ownsRow B1 e1 s1 v1 n1 xs1) (h2 : w.ownsRow B2 e2 s2 v2 n2 xs2) (he : e1 ≠ e2) : v1.ownBlock = none ∨ v1.ownBlock ≠ v2.ownBlock := by
  rcases h1.2 with ⟨rfl, -⟩ | ⟨g1, c1, cur1, rfl, -, hg1, -⟩
  · exact .inl rfl
  · right
    rcases h2.2 with ⟨rfl, -⟩ | ⟨g2, c2, cur2, rfl, -, hg2, -⟩
    · simp [Value.ownBlock]
    · intro h
      simp [Value.ownBlock] at h
      subst h
      rw [hg1] at hg2
      simp at hg2
      exact he hg2.2
/-- They stay where a row of another type is written. -/
theorem QQ.other {w w' : World} {B B2 s2 n2 : Nat} {e2 : TypeId} {v v2 : Value} {xs2 : List Value} {gs : List Nat} {l : List (Int × Int)} (h : QQ w B v gs l) (h2 : w.ownsRow B2 e2 s2 v2 n2 xs2)
    (he : 38 ≠ e2) (he' : 3 ≠ e2) (hg : w.grownBy w' v2.ownBlock) : QQ w' B v gs l :=
  ⟨h.len, World.ownsRow.kept h.row hg (own_two h.row h2 he), fun i hi => World.ownsRow.kept (h.two i hi) hg (own_two (h.two i hi) h2 he'), h.up⟩
theorem InRow.other {w w' : World} {B B2 s2 n2 : Nat} {e2 : TypeId} {v v2 : Value} {xs2 : List Value} {l : List Int} (h : InRow w B v l) (h2 : w.ownsRow B2 e2 s2 v2 n2 xs2)
    (he' : 3 ≠ e2) (hg : w.grownBy w' v2.ownBlock) : InRow w' B v l := World.ownsRow.kept h hg (own_two h h2 he')
/-- One more of them. -/
theorem QQ.push {w w' : World} {B g : Nat} {v v' : Value} {gs : List Nat} {l : List (Int × Int)} {q : Int × Int} (h : QQ w B v gs l) (hu : InRow w B (.slice (some ⟨g, 0, none⟩) 2 2) (twoI q))
    (hnew : ∀ i, i < gs.length → gs.getD i 0 < g) (hg : w.grownBy w' v.ownBlock) (ho : w'.ownsRow B 38 1 v' (gs.length + 1) (twos gs ++ [.slice (some ⟨g, 0, none⟩) 2 2])) : QQ w' B v' (gs ++ [g]) (l ++ [q]) := by
  have hk : ∀ (u : Value) (x : List Int), InRow w B u x → InRow w' B u x := fun u x hr => World.ownsRow.kept hr hg (own_two hr h.row (by decide))
  have hl := h.len
  refine ⟨by rw [List.length_append, List.length_append, hl]; rfl, by rw [List.length_append, twos_append]; exact ho, fun i hi => ?_, fun i j hij hj => ?_⟩
  · rw [List.length_append] at hi
    by_cases hik : i < gs.length
    · have e1 : (gs ++ [g]).getD i 0 = gs.getD i 0 := by rw [List.getD_eq_getElem?_getD, List.getElem?_append_left hik, ← List.getD_eq_getElem?_getD]
      have e2 : pt (l ++ [q]) i = pt l i := by unfold pt; rw [List.getD_eq_getElem?_getD, List.getElem?_append_left (by omega), ← List.getD_eq_getElem?_getD]
      rw [e1, e2]
      exact hk _ _ (h.two i hik)
    · obtain rfl : i = gs.length := by simp at hi; omega
      have e1 : (gs ++ [g]).getD gs.length 0 = g := by rw [List.getD_eq_getElem?_getD, List.getElem?_append_right (Nat.le_refl _), Nat.sub_self]; rfl
      have e2 : pt (l ++ [q]) gs.length = q := by unfold pt; rw [hl, List.getD_eq_getElem?_getD, List.getElem?_append_right (Nat.le_refl _), Nat.sub_self]; rfl
      rw [e1, e2]
      exact hk _ _ hu
  · rw [List.length_append] at hj
    have e1 : (gs ++ [g]).getD i 0 = gs.getD i 0 := by rw [List.getD_eq_getElem?_getD, List.getElem?_append_left (by simp at hj; omega), ← List.getD_eq_getElem?_getD]
    rw [e1]
    by_cases hjk : j < gs.length
    · have e2 : (gs ++ [g]).getD j 0 = gs.getD j 0 := by rw [List.getD_eq_getElem?_getD, List.getElem?_append_left hjk, ← List.getD_eq_getElem?_getD]
      rw [e2]
      exact h.up i j hij hjk
    · obtain rfl : j = gs.length := by simp at hj; omega
      have e2 : (gs ++ [g]).getD gs.length 0 = g := by rw [List.getD_eq_getElem?_getD, List.getElem?_append_right (Nat.le_refl _), Nat.sub_self]; rfl
      rw [e2]
      exact hnew i hij
theorem QQ.slice {w : World} {B : Nat} {v : Value} {gs : List Nat} {l : List (Int × Int)} (h : QQ w B v gs l) : ∃ a cap, v = .slice a gs.length cap ∧ gs.length ≤ cap ∧ cap ≤ maxLen := by
  rcases h.row.2 with ⟨rfl, h0⟩ | ⟨g, cap, cur, rfl, -, -, hc, hm, -⟩
  · rw [h0]; exact ⟨none, 0, rfl, Nat.le_refl _, Nat.zero_le _⟩
  · exact ⟨_, cap, rfl, hc, hm⟩
theorem QQ.at {w : World} {B cap n : Nat} {a : Option Addr} {gs : List Nat} {l : List (Int × Int)} (h : QQ w B (.slice a n cap) gs l) (i : Nat) (hi : i < gs.length) :
    ∃ g, a = some ⟨g, 0, Option.none⟩ ∧ w.cell? ⟨g, i, Option.none⟩ = some (.slice (some ⟨gs.getD i 0, 0, none⟩) 2 2) := by
  have hh := h.row
  rcases h.row.2 with ⟨h1, h0⟩ | ⟨g, cap', cur, he, -⟩
  · omega
  · rw [he] at hh
    simp only [Value.slice.injEq] at he
    obtain ⟨rfl, -, -⟩ := he
    refine ⟨g, rfl, ?_⟩
    rw [World.ownsRow.cellAt hh i (by omega)]
    exact twos_at gs i hi
/-- The two ints of one of them. -/
theorem two_cells {w : World} {B g : Nat} {q : Int × Int} (h : InRow w B (.slice (some ⟨g, 0, none⟩) 2 2) (twoI q)) : w.cell? ⟨g, 0, none⟩ = some (.int .i64 q.1) ∧ w.cell? ⟨g, 1, none⟩ = some (.int .i64 q.2) := by
  have h' : InRowAt w B g 2 (twoI q) := h
  have a := h'.cell 0 (by show 0 < 2; omega)
  have b := h'.cell 1 (by show 1 < 2; omega)
  exact ⟨a, b⟩

theorem eqI (w : World) (B1 B2 : Nat) (v1 v2 : Value) (l : List Int) (h1 : InRow w B1 v1 l) (h2 : InRow w B2 v2 l) :
    Calls Try.prog 42 #[v1, v2] w fun e w' => e = .returned (.bool true) ∧ Below w.heap.size w w' := by
  obtain ⟨a1, c1, rfl, -, -⟩ := inrow_slice h1
  obtain ⟨a2, c2, rfl, -, -⟩ := inrow_slice h2
  exact eqIntS_same w B1 B2 l.length c1 c2 a1 a2 l ⟨h1, rfl⟩ ⟨h2, rfl⟩
theorem markI (w : World) (B : Nat) (v : Value) (l : List Int) (hr : InRow w B v l) (hm : l.length ≤ 1048576) (hB : B ≤ w.heap.size) :
    Calls Try.prog 46 #[v, .int .i64 1] w fun e w' => e = .returned (.int .i64 (1 + l.length)) ∧ InRow w' B v (marksI 1 l.length) ∧ Below B w w' := by
  refine (markIns w B v l hr hm).mono ?_
  rintro e w1 ⟨rfl, h1, h2⟩
  exact ⟨rfl, h1, (Below.refl B w).grown h2 hB (fun k hk => (World.ownsRow.lt hr k hk).1)⟩

set_option maxHeartbeats 2000000 in
/-- Two of the same are told equal. -/
theorem eqQ (w : World) (B1 B2 : Nat) (v1 v2 : Value) (g1 g2 : List Nat) (l : List (Int × Int)) (h1 : QQ w B1 v1 g1 l) (h2 : QQ w B2 v2 g2 l) :
    Calls Try.prog 21 #[v1, v2] w fun e w' => e = .returned (.bool true) ∧ Below w.heap.size w w' := by
  obtain ⟨a1, c1, rfl, hc1, hm1⟩ := h1.slice
  obtain ⟨a2, c2, rfl, hc2, hm2⟩ := h2.slice
  have L1 := h1.len
  have L2 := h2.len
  rw [L1] at hc1 h1 ⊢
  rw [L2] at hc2 h2 ⊢
  obtain ⟨m, hm⟩ : ∃ m, m = l.length := ⟨_, rfl⟩
  rw [← hm] at L1 L2 hc1 hc2 h1 h2 ⊢
  unfold maxLen at hm1 hm2
  have H1 := Lib.hid h1
  have H2 := Lib.hid h2
  clear h1 h2 hm
  go_enter Try.func21, Try.ntmps21
  go_wp2_with fail
  go_loopw [5] (fun t wr => ∃ k : Nat, k ≤ m ∧ t = .int .i64 k ∧ Below w.heap.size w wr)
    (fun t _ => m - (intOf t).toNat)
  case atStart => exact ⟨0, Nat.zero_le _, rfl, Below.refl _ _⟩
  case round =>
    obtain ⟨k, hk, rfl, hbw⟩ := hrel
    have HB := Lib.hid hbw
    by_cases hlt : k < m
    · have Q1 := H1.out.below hbw
      have Q2 := H2.out.below hbw
      obtain ⟨b1, rfl, a0⟩ := Q1.at k (by omega)
      obtain ⟨b2, rfl, b0⟩ := Q2.at k (by omega)
      have R1 := Lib.hid (Q1.two k (by omega))
      have R2 := Lib.hid (Q2.two k (by omega))
      generalize g1.getD k 0 = x1 at *
      generalize g2.getD k 0 = x2 at *
      generalize twoI (pt l k) = X at *
      have hkm : (k : Int) < (m : Int) := by omega
      clear hbw Q1 Q2
      go_wp2_with fail
      go_region_held3 (fun w' => w'.cell? ⟨b1, k, none⟩ = some (.slice (some ⟨x1, 0, none⟩) 2 2) ∧ w'.cell? ⟨b2, k, none⟩ = some (.slice (some ⟨x2, 0, none⟩) 2 2))
        (first | go_keep | trivial)
        ((go_at_call 42; refine (eqI _ _ _ _ _ X (by first | exact R1.out | exact InRow.below R1.out (below_drewN (Below.refl _ _) _)) (by first | exact R2.out | exact InRow.below R2.out (below_drewN (Below.refl _ _) _))).mono ?_; rintro e w1 ⟨rfl, hb1⟩; have HB1 : RowKit.Hid (Below w.heap.size w w1) := Lib.hid (by first | exact HB.out.trans (hb1.mono HB.out.size) | exact below_after HB.out hb1); have a1 : w1.cell? ⟨b1, k, none⟩ = some (.slice (some ⟨x1, 0, none⟩) 2 2) := (by first | exact cell_kept a0 hb1 | exact cell_after a0 hb1); have b1' : w1.cell? ⟨b2, k, none⟩ = some (.slice (some ⟨x2, 0, none⟩) 2 2) := (by first | exact cell_kept b0 hb1 | exact cell_after b0 hb1); clear hb1))
      clear a0 b0
      go_wp2_with fail
      go_roundw
      case rel => exact ⟨k + 1, by omega, by go_num, HB1.out⟩
      case measure => simp [intOf]; omega
    · obtain rfl : k = m := by omega
      clear hbw
      go_wp2_with fail
      go_ret
      exact ⟨rfl, HB.out⟩

/-- The pairs of numbers from 1 on. -/
def mk2 (n : Nat) : List (Int × Int) := (List.range n).map fun (i : Nat) => (1 + 2 * (i : Int), 2 + 2 * (i : Int))
theorem mk2_length (n : Nat) : (mk2 n).length = n := by simp [mk2]
theorem mk2_at {n i : Nat} (h : i < n) : pt (mk2 n) i = (1 + 2 * (i : Int), 2 + 2 * (i : Int)) := by
  unfold pt mk2; rw [List.getD_eq_getElem?_getD, List.getElem?_map, List.getElem?_range h]; rfl

set_option maxHeartbeats 2000000 in
/-- A row of two is marked. -/
theorem markTwo (w : World) (B g : Nat) (q : Int × Int) (k : Int) (hk : 0 ≤ k ∧ k ≤ 4000000) (hr : InRow w B (.slice (some ⟨g, 0, none⟩) 2 2) (twoI q)) :
    Calls Try.prog 46 #[.slice (some ⟨g, 0, none⟩) 2 2, .int .i64 k] w fun e w' => e = .returned (.int .i64 (k + 2)) ∧ InRow w' B (.slice (some ⟨g, 0, none⟩) 2 2) (twoI (k, k + 1)) ∧ w.grownBy w' (some g) := by
  obtain ⟨a0, a1⟩ := two_cells hr
  have f0 := World.ownsRow.frozenAt hr 0
  have f1 := World.ownsRow.frozenAt hr 1
  have s1 := World.ownsRow.stored hr 0 (.int .i64 k)
  have s2 := World.ownsRow.stored s1.1 1 (.int .i64 (k + 1))
  have hS : InRow ((w.setCell ⟨g, 0, none⟩ (.int .i64 k)).setCell ⟨g, 1, none⟩ (.int .i64 (k + 1))) B (.slice (some ⟨g, 0, none⟩) 2 2) (twoI (k, k + 1)) ∧ w.grownBy ((w.setCell ⟨g, 0, none⟩ (.int .i64 k)).setCell ⟨g, 1, none⟩ (.int .i64 (k + 1))) (some g) :=
    ⟨s2.1, grownI_trans s1.2 s2.2⟩
  have HS := Lib.hid hS
  have f1' := World.ownsRow.frozenAt s1.1 1
  obtain ⟨q0, q1⟩ := q
  dsimp only at a0 a1
  have hgw := (two_ge hr).2
  clear s1 s2 hS
  go_enter Try.func46, Try.ntmps46
  go_wp2_with fail
  refine wp_loop_rounds 3 ?_
  rw [rounds_succ]
  go_wp2_with fail
  rw [rounds_succ]
  go_wp2_with fail
  rw [rounds_succ]
  go_wp2_with fail
  go_ret
  refine ⟨?_, HS.out⟩
  exact ret_i64 (by omega)
set_option maxHeartbeats 2000000 in
theorem heldTwo (w : World) (B g : Nat) (k : Int) (hk : 0 ≤ k ∧ k ≤ 4000000) (hr : InRow w B (.slice (some ⟨g, 0, none⟩) 2 2) (twoI (k, k + 1))) :
    Calls Try.prog 47 #[.slice (some ⟨g, 0, none⟩) 2 2, .int .i64 k] w fun e w' => e = .returned (.int .i64 (k + 2)) ∧ Below w.heap.size w w' := by
  obtain ⟨a0, a1⟩ := two_cells hr
  dsimp only at a0 a1
  clear hr
  go_enter Try.func47, Try.ntmps47
  go_wp2_with fail
  refine wp_loop_rounds 3 ?_
  rw [rounds_succ]
  go_wp2_with fail
  try (go_quiet (fail); go_wp2_with fail)
  rw [rounds_succ]
  go_wp2_with fail
  try (go_quiet (fail); go_wp2_with fail)
  rw [rounds_succ]
  go_wp2_with fail
  go_ret
  exact ⟨ret_i64 (by omega), by repeat (first | exact Below.refl _ _ | refine below_drewN ?_ _)⟩

/-- As far as they have been marked. -/
def mkTo (l : List (Int × Int)) (k : Nat) : List (Int × Int) := mk2 k ++ l.drop k
theorem mkTo_length (l : List (Int × Int)) (k : Nat) (h : k ≤ l.length) : (mkTo l k).length = l.length := by unfold mkTo; rw [List.length_append, mk2_length, List.length_drop]; omega
theorem mkTo_end (l : List (Int × Int)) : mkTo l l.length = mk2 l.length := by unfold mkTo; rw [List.drop_eq_nil_of_le (Nat.le_refl _), List.append_nil]
theorem mkTo_lo (l : List (Int × Int)) {k i : Nat} (h : i < k) : pt (mkTo l k) i = (1 + 2 * (i : Int), 2 + 2 * (i : Int)) := by
  have := mk2_at h
  unfold pt mkTo at *
  rw [List.getD_eq_getElem?_getD, List.getElem?_append_left (by rw [mk2_length]; exact h), ← List.getD_eq_getElem?_getD]; exact this
theorem mkTo_hi (l : List (Int × Int)) {k i : Nat} (h : k ≤ i) : pt (mkTo l k) i = pt l i := by
  unfold pt mkTo
  rw [List.getD_eq_getElem?_getD, List.getElem?_append_right (by rw [mk2_length]; exact h), mk2_length, List.getElem?_drop, List.getD_eq_getElem?_getD]
  congr 2; omega

set_option maxHeartbeats 2000000 in
theorem markQ (w : World) (B : Nat) (v : Value) (gs : List Nat) (l : List (Int × Int)) (hr : QQ w B v gs l) (hm : l.length ≤ 1048576) (hB : B ≤ w.heap.size) :
    Calls Try.prog 26 #[v, .int .i64 1] w fun e w' => e = .returned (.int .i64 (1 + 2 * l.length)) ∧ QQ w' B v gs (mk2 l.length) ∧ Below B w w' := by
  obtain ⟨a, c, rfl, hc, hcm⟩ := hr.slice
  have hL := hr.len
  rw [← hL] at hm ⊢
  rw [show mk2 gs.length = mkTo l gs.length by rw [hL, mkTo_end]]
  have HL := Lib.hid hL
  have HR := Lib.hid (show QQ w B (.slice a gs.length c) gs (mkTo l 0) from hr)
  obtain ⟨n, hn⟩ : ∃ n, n = gs.length := ⟨_, rfl⟩
  have HN := Lib.hid hn
  rw [← hn] at hm hc HR ⊢
  unfold maxLen at hcm
  clear hr hL hn
  go_enter Try.func26, Try.ntmps26
  go_wp2_with fail
  go_loopw [1, 5] (fun q t wr => ∃ k : Nat, k ≤ n ∧ t = .int .i64 k ∧ q = .int .i64 (1 + 2 * (k : Int)) ∧ QQ wr B (.slice a n c) gs (mkTo l k) ∧ Below B w wr)
    (fun _ t _ => n - (intOf t).toNat)
  case atStart => exact ⟨0, Nat.zero_le _, rfl, rfl, HR.out, Below.refl _ _⟩
  case round =>
    obtain ⟨k, hk, rfl, rfl, hq, hbw⟩ := hrel
    have HB := Lib.hid hbw
    have HQ := Lib.hid hq
    by_cases hlt : k < n
    · have hkg : k < gs.length := by have := HN.out; omega
      obtain ⟨b, rfl, a0⟩ := hq.at k hkg
      have R := Lib.hid (hq.two k hkg)
      have HG := Lib.hid (show ∃ g, gs.getD k 0 = g from ⟨_, rfl⟩)
      obtain ⟨g, hg⟩ := HG.out
      rw [hg] at a0 R
      have HE := Lib.hid hg
      generalize pt (mkTo l k) k = X at *
      have hkm : (k : Int) < (n : Int) := by omega
      clear hbw hq hg HG
      go_wp2_with fail
      refine (markTwo _ _ _ _ _ ⟨by omega, by omega⟩ R.out).mono ?_
      rintro e w1 ⟨rfl, hi, hgr⟩
      have HB1 := Lib.hid (HB.out.grown hgr (Nat.le_trans hB HB.out.size) (fun j hj => by have := (two_ge R.out).1; simp at hj; omega))
      have HQ1 : RowKit.Hid (QQ w1 B (.slice (some ⟨b, 0, none⟩) n c) gs (mkTo l (k + 1))) := Lib.hid (by
        have q := HQ.out
        have hgl := HL.out
        have hnn := HN.out
        have hml := mkTo_length l (k + 1) (by omega)
        refine ⟨by rw [hml]; exact hgl, World.ownsRow.kept q.row hgr (own_two q.row R.out (by decide)), fun i hi' => ?_, q.up⟩
        by_cases e : i = k
        · rw [e, HE.out, mkTo_lo l (Nat.lt_succ_self k)]
          rw [show (2 : Int) + 2 * (k : Int) = 1 + 2 * (k : Int) + 1 by omega]
          exact hi
        · have hne : gs.getD i 0 ≠ g := by
            rw [← HE.out]
            by_cases hik : i < k
            · exact Nat.ne_of_lt (q.up i k hik hkg)
            · exact Nat.ne_of_gt (q.up k i (by omega) hi')
          have := q.two i hi'
          have e2 : pt (mkTo l (k + 1)) i = pt (mkTo l k) i := by
            by_cases hik : i < k
            · rw [mkTo_lo l hik, mkTo_lo l (by omega)]
            · rw [mkTo_hi l (by omega), mkTo_hi l (by omega)]
          rw [e2]
          exact World.ownsRow.kept this hgr (.inr (by simp [Value.ownBlock]; exact hne)))
      clear hi hgr
      go_wp2_with fail
      go_roundw
      case rel => exact ⟨k + 1, by omega, by go_num, by first | rfl | (congr 1; omega), HQ1.out, HB1.out⟩
      case measure => simp [intOf]; omega
    · obtain rfl : k = n := by omega
      clear hbw hq
      go_wp2_with fail
      go_ret
      exact ⟨rfl, HQ.out, HB.out⟩

set_option maxHeartbeats 2000000 in
theorem heldQ (w : World) (B n : Nat) (v : Value) (gs : List Nat) (hr : QQ w B v gs (mk2 n)) (hm : n ≤ 1048576) :
    Calls Try.prog 27 #[v, .int .i64 1] w fun e w' => e = .returned (.int .i64 (1 + 2 * n)) ∧ Below w.heap.size w w' := by
  obtain ⟨a, c, rfl, hc, hcm⟩ := hr.slice
  have hL := hr.len
  rw [mk2_length] at hL
  rw [hL] at hc hr ⊢
  have HL := Lib.hid hL
  have HR := Lib.hid hr
  unfold maxLen at hcm
  clear hr hL
  go_enter Try.func27, Try.ntmps27
  go_wp2_with fail
  go_loopw [1, 5] (fun q t wr => ∃ k : Nat, k ≤ n ∧ t = .int .i64 k ∧ q = .int .i64 (1 + 2 * (k : Int)) ∧ Below w.heap.size w wr)
    (fun _ t _ => n - (intOf t).toNat)
  case atStart => exact ⟨0, Nat.zero_le _, rfl, rfl, Below.refl _ _⟩
  case round =>
    obtain ⟨k, hk, rfl, rfl, hbw⟩ := hrel
    have HB := Lib.hid hbw
    by_cases hlt : k < n
    · have hkg : k < gs.length := by have := HL.out; omega
      have hq := HR.out.below hbw
      obtain ⟨b, rfl, a0⟩ := hq.at k hkg
      have r := hq.two k hkg
      rw [mk2_at hlt, show (2 : Int) + 2 * (k : Int) = 1 + 2 * (k : Int) + 1 by omega] at r
      have R := Lib.hid r
      generalize gs.getD k 0 = g at *
      have hkm : (k : Int) < (n : Int) := by omega
      clear hbw hq r
      go_wp2_with fail
      refine (heldTwo _ _ _ _ ⟨by omega, by omega⟩ R.out).mono ?_
      rintro e w1 ⟨rfl, hb1⟩
      have HB1 := Lib.hid (HB.out.trans (hb1.mono HB.out.size))
      clear hb1
      go_wp2_with fail
      go_roundw
      case rel => exact ⟨k + 1, by omega, by go_num, by first | rfl | (congr 1; omega), HB1.out⟩
      case measure => simp [intOf]; omega
    · obtain rfl : k = n := by omega
      clear hbw
      go_wp2_with fail
      go_ret
      exact ⟨rfl, HB.out⟩

/-- The same, in blocks that are not named. -/
def QR (w : World) (B : Nat) (v : Value) (l : List (Int × Int)) : Prop := ∃ gs, QQ w B v gs l
theorem QR.below {w w' : World} {B : Nat} {v : Value} {l : List (Int × Int)} (h : QR w B v l) (hb : Below w.heap.size w w') : QR w' B v l := ⟨h.choose, h.choose_spec.below hb⟩
theorem QR.after {w w' : World} {B n : Nat} {v : Value} {l : List (Int × Int)} (h : QR w B v l) (hb : Below (w.drewN n).heap.size (w.drewN n) w') : QR w' B v l := h.below ((below_drewN (Below.refl w.heap.size w) n).trans hb)
theorem InRow.after {w w' : World} {B n : Nat} {v : Value} {l : List Int} (h : InRow w B v l) (hb : Below (w.drewN n).heap.size (w.drewN n) w') : InRow w' B v l := h.below ((below_drewN (Below.refl w.heap.size w) n).trans hb)
theorem QR.base {w : World} {B B' : Nat} {v : Value} {l : List (Int × Int)} (h : QR w B v l) (hb : B' ≤ B) : QR w B' v l := ⟨h.choose, h.choose_spec.base hb⟩
theorem QR.other {w w' : World} {B B2 s2 n2 : Nat} {e2 : TypeId} {v v2 : Value} {xs2 : List Value} {l : List (Int × Int)} (h : QR w B v l) (h2 : w.ownsRow B2 e2 s2 v2 n2 xs2)
    (he : 38 ≠ e2) (he' : 3 ≠ e2) (hg : w.grownBy w' v2.ownBlock) : QR w' B v l := ⟨h.choose, h.choose_spec.other h2 he he' hg⟩
theorem eqR (w : World) (B1 B2 : Nat) (v1 v2 : Value) (l : List (Int × Int)) (h1 : QR w B1 v1 l) (h2 : QR w B2 v2 l) :
    Calls Try.prog 21 #[v1, v2] w fun e w' => e = .returned (.bool true) ∧ Below w.heap.size w w' :=
  eqQ w B1 B2 v1 v2 _ _ l h1.choose_spec h2.choose_spec
theorem markR (w : World) (B : Nat) (v : Value) (l : List (Int × Int)) (hr : QR w B v l) (hm : l.length ≤ 1048576) (hB : B ≤ w.heap.size) :
    Calls Try.prog 26 #[v, .int .i64 1] w fun e w' => e = .returned (.int .i64 (1 + 2 * l.length)) ∧ QR w' B v (mk2 l.length) ∧ Below B w w' := by
  refine (markQ w B v _ l hr.choose_spec hm hB).mono ?_
  rintro e w1 ⟨h0, h1, h2⟩
  exact ⟨h0, ⟨_, h1⟩, h2⟩
theorem heldR (w : World) (B n : Nat) (v : Value) (hr : QR w B v (mk2 n)) (hm : n ≤ 1048576) :
    Calls Try.prog 27 #[v, .int .i64 1] w fun e w' => e = .returned (.int .i64 (1 + 2 * n)) ∧ Below w.heap.size w w' :=
  heldQ w B n v _ hr.choose_spec hm
end Go.Proofs.Ytbmlcfdilopmgaa
