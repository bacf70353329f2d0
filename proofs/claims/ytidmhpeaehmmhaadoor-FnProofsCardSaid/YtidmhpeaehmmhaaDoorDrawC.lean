/- The contracts of the cursor over a draw's bytes: what each of its functions returns lies in its range; only the cursor's own block is written. -/
import Derived.Test.YtidmhpeaehmmhaaDoorBaseC
import Derived.WalkKit
import Derived.ProofKit
import Derived.OpenShut
import Derived.Below
import Derived.BigQuiet
import Derived.Deep.QuietTactic
import Derived.RegionTactic
import Derived.Outline
import Derived.Lib.Hide
namespace Go.Proofs.YtidmhpeaehmmhaaDoor
set_option maxRecDepth 100000
open Go.ChangeShapes Go.WideShapes Go.ChangeAt Go.RowKit

/-- A cursor lies at block bc: over a slice of n bytes that can be read; its place is in 0..n. -/
def CurOk (w : World) (bc : Nat) (a : Option Addr) (n cap : Nat) : Prop :=
  n ≤ maxLen ∧ (∃ i h : Int, 0 ≤ i ∧ i ≤ n ∧ w.cell? ⟨bc, 0, none⟩ = some (.slice a n cap) ∧ w.cell? ⟨bc, 1, none⟩ = some (.int .i64 i) ∧ w.cell? ⟨bc, 2, none⟩ = some (.int .i64 h)) ∧
  w.frozen? ⟨bc, 1, none⟩ = false ∧ w.frozen? ⟨bc, 2, none⟩ = false ∧
  ∀ k : Nat, k < n → ∃ b off, a = some ⟨b, off, none⟩ ∧ b ≠ bc ∧ ∃ u : Int, 0 ≤ u ∧ u ≤ 255 ∧ w.cell? ⟨b, off + k, none⟩ = some (.int .u8 u)

/-- What is told of a draw's bytes when they come in: nil, or a row of bytes. -/
def IsCode (w : World) (a : Option Addr) (len cap : Nat) (zs : List Int) : Prop :=
  (a = none ∧ len = 0 ∧ cap = 0 ∧ zs = []) ∨
  ∃ x, a = some x ∧ len ≤ cap ∧ cap ≤ maxLen ∧ zs.length = cap ∧ (∀ i, i < zs.length → w.cell? (x.add i) = some (.int .u8 (zs.getD i 0))) ∧ ∀ n ∈ zs, (Lit.int .u8 n).wf = true

/-- An int was drawn: it meets P; the cursor is as good as before; nothing else was written. -/
def Drawn (P : Int → Prop) (bc : Nat) (a : Option Addr) (n cap : Nat) (w : World) (e : Ending) (w' : World) : Prop :=
  ∃ x : Int, P x ∧ e = .returned (.int .i64 x) ∧ CurOk w' bc a n cap ∧ w.grownBy w' (some bc)

theorem and_range (x y : Int) (h0 : 0 ≤ y) (h1 : y ≤ 1073741823) : 0 ≤ bits .and .i64 x y ∧ bits .and .i64 x y ≤ y := by
  obtain ⟨k, rfl⟩ := Int.eq_ofNat_of_zero_le h0
  have e : bits .and .i64 x (k : Int) = IntKind.i64.wrap (((BitVec.ofInt 64 x).toNat &&& k : Nat) : Int) := by
    show IntKind.i64.wrap ((BitVec.ofInt 64 x &&& BitVec.ofInt 64 (k : Int)).toNat : Int) = _
    have h2 : (BitVec.ofInt 64 (k : Int)).toNat = k := by
      rw [BitVec.ofInt_natCast, BitVec.toNat_ofNat]; exact Nat.mod_eq_of_lt (by omega)
    rw [BitVec.toNat_and, h2]
  have hle : ((BitVec.ofInt 64 x).toNat &&& k) ≤ k := Nat.and_le_right
  rw [e, IntKind.wrap_i64]
  generalize ((BitVec.ofInt 64 x).toNat &&& k) = m at *
  omega

theorem grown_setCell (W : World) (b o : Nat) (v : Value) : W.grownBy (W.setCell ⟨b, o, none⟩ v) (some b) :=
  ⟨rfl, rfl, rfl, by simp [World.setCell], fun k _ hk => Below.heap_setCell _ _ _ k (fun e => hk (by rw [e]))⟩
theorem grown_refl (W : World) (r : Option Nat) : W.grownBy W r := ⟨rfl, rfl, rfl, Nat.le_refl _, fun _ _ _ => rfl⟩
theorem grown_drewN {a w : World} {r : Option Nat} (h : a.grownBy w r) (n : Nat) : a.grownBy (w.drewN n) r := ⟨h.os, h.tape, h.output, h.size, h.block⟩
theorem grown_drew {a w : World} {r : Option Nat} (h : a.grownBy w r) : a.grownBy w.drew r := ⟨h.os, h.tape, h.output, h.size, h.block⟩
theorem grown_trans {a b c : World} {r : Option Nat} (h : a.grownBy b r) (k : b.grownBy c r) : a.grownBy c r :=
  ⟨k.os.trans h.os, k.tape.trans h.tape, k.output.trans h.output, Nat.le_trans h.size k.size, fun i hi hne => (k.block i (Nat.lt_of_lt_of_le hi h.size) hne).trans (h.block i hi hne)⟩
theorem grown_set {a w : World} {b : Nat} (h : a.grownBy w (some b)) (o : Nat) (v : Value) : a.grownBy (w.setCell ⟨b, o, none⟩ v) (some b) := grown_trans h (grown_setCell w b o v)

set_option maxHeartbeats 400000 in
theorem byte_any (w : World) (bc : Nat) (a : Option Addr) (n cap : Nat) (hc : CurOk w bc a n cap) :
    Calls Tryd.prog 40 #[.pointer (some ⟨bc, 0, none⟩)] w (Drawn (fun x => 0 ≤ x ∧ x ≤ 255) bc a n cap w) := by
  obtain ⟨hm, ⟨i, h, hi0, hin, c0, c1, c2⟩, f1, f2, hb⟩ := hc
  have hm' := hm
  unfold maxLen at hm
  by_cases hlt : i < n
  · obtain ⟨k, rfl⟩ := Int.eq_ofNat_of_zero_le hi0
    obtain ⟨b, off, rfl, hbne, u, hu0, hu1, hcell⟩ := hb k (by omega)
    have hbne' : bc ≠ b := fun e => hbne e.symm
    go_enter Tryd.func40, Tryd.ntmps40
    go_wp2
    go_quiet (fail)
    go_wp2
    go_quiet (fail)
    go_wp2
    go_quiet (fail)
    go_wp2
    go_ret
    refine ⟨_, and_range _ _ (by omega) (by omega), rfl, ⟨hm', ⟨(k : Int) + 1, _, by omega, by omega, by go_simp, by go_simp, by go_simp; rfl⟩, by go_simp, by go_simp, fun k' hk => ?_⟩, grown_set (grown_drewN (grown_setCell _ _ _ _) _) _ _⟩
    obtain ⟨b', off', ha, hne, u', hu0', hu1', hcell'⟩ := hb k' hk
    have hne' : bc ≠ b' := fun e => hne e.symm
    exact ⟨b', off', ha, hne, u', hu0', hu1', by go_simp⟩
  · go_enter Tryd.func40, Tryd.ntmps40
    go_wp2
    go_quiet (fail)
    go_wp2
    go_quiet (fail)
    go_wp2
    go_ret
    refine ⟨_, and_range _ _ (by omega) (by omega), rfl, ⟨hm', ⟨i, _, hi0, hin, by go_simp, by go_simp, by go_simp; rfl⟩, by go_simp, by go_simp, fun k hk => ?_⟩, grown_drewN (grown_drewN (grown_setCell _ _ _ _) _) _⟩
    obtain ⟨b, off, ha, hne, u, hu0, hu1, hcell⟩ := hb k hk
    have hne' : bc ≠ b := fun e => hne e.symm
    exact ⟨b, off, ha, hne, u, hu0, hu1, by go_simp⟩
/-- 0..m-1; 0 where m is not above 0. -/
def InBelow (m x : Int) : Prop := 0 ≤ x ∧ (0 < m → x < m) ∧ (m ≤ 0 → x = 0)

set_option maxHeartbeats 400000 in
theorem below_any (w : World) (bc : Nat) (a : Option Addr) (n cap : Nat) (m : Int) (hm : m ≤ 9223372036854775807) (hc : CurOk w bc a n cap) :
    Calls Tryd.prog 26 #[.pointer (some ⟨bc, 0, none⟩), .int .i64 m] w (Drawn (InBelow m) bc a n cap w) := by
  by_cases h0 : m ≤ 0
  · go_enter Tryd.func26, Tryd.ntmps26
    go_wp2
    go_ret
    exact ⟨0, ⟨by omega, by omega, fun _ => rfl⟩, rfl, hc, grown_refl _ _⟩
  · by_cases h1 : m ≤ 256
    · go_enter Tryd.func26, Tryd.ntmps26
      go_wp2_with (go_at_call 40; refine (byte_any _ _ _ _ _ hc).mono ?_; rintro e w1 ⟨x, ⟨hx0, hx1⟩, rfl, hc1, hg1⟩)
      go_ret
      exact ⟨_, ⟨Int.emod_nonneg _ (by omega), fun _ => Int.emod_lt_of_pos _ (by omega), by omega⟩, rfl, hc1, hg1⟩
    · go_enter Tryd.func26, Tryd.ntmps26
      go_wp2_with fail
      refine (byte_any _ _ _ _ _ hc).mono ?_
      rintro e w1 ⟨x, ⟨hx0, hx1⟩, rfl, hc1, hg1⟩
      go_wp2_with fail
      refine (byte_any _ _ _ _ _ hc1).mono ?_
      rintro e w2 ⟨y, ⟨hy0, hy1⟩, rfl, hc2, hg2⟩
      go_wp2_with fail
      refine (byte_any _ _ _ _ _ hc2).mono ?_
      rintro e w3 ⟨z, ⟨hz0, hz1⟩, rfl, hc3, hg3⟩
      go_wp2_with fail
      refine (byte_any _ _ _ _ _ hc3).mono ?_
      rintro e w4 ⟨u, ⟨hu0, hu1⟩, rfl, hc4, hg4⟩
      go_wp2_with fail
      go_ret
      exact ⟨_, ⟨Int.emod_nonneg _ (by omega), fun _ => Int.emod_lt_of_pos _ (by omega), by omega⟩, rfl, hc4, grown_trans hg1 (grown_trans hg2 (grown_trans hg3 hg4))⟩

/-- A bool was drawn. -/
def DrawnB (bc : Nat) (a : Option Addr) (n cap : Nat) (w : World) (e : Ending) (w' : World) : Prop :=
  ∃ b : Bool, e = .returned (.bool b) ∧ CurOk w' bc a n cap ∧ w.grownBy w' (some bc)


theorem cell_lt {w : World} {a : Addr} {v : Value} (h : w.cell? a = some v) : a.block < w.heap.size := by
  unfold World.cell? at h
  by_cases hb : a.block < w.heap.size
  · exact hb
  · rw [Array.getElem?_eq_none (by omega)] at h
    simp at h

theorem code_cells {w : World} {a : Option Addr} {n cap : Nat} {zs : List Int} (hr : IsCode w a n cap zs) :
    n ≤ maxLen ∧ ∀ k : Nat, k < n → ∃ b off, a = some ⟨b, off, none⟩ ∧ b < w.heap.size ∧ ∃ u : Int, 0 ≤ u ∧ u ≤ 255 ∧ w.cell? ⟨b, off + k, none⟩ = some (.int .u8 u) := by
  rcases hr with ⟨rfl, rfl, rfl, rfl⟩ | ⟨x, rfl, hl, hm, hz, hcell, hwz⟩
  · exact ⟨Nat.zero_le _, fun k hk => absurd hk (by omega)⟩
  · refine ⟨Nat.le_trans hl hm, fun k hk => ?_⟩
    obtain ⟨b, off, spot⟩ := x
    have hspot : spot = none := by simpa [Addr.add] using World.cell?_spot (hcell 0 (by omega))
    subst hspot
    have hc0 : w.cell? ⟨b, off + k, none⟩ = some (.int .u8 (zs.getD k 0)) := by
      have hc := hcell k (by omega)
      rwa [Addr.add_lit] at hc
    have hk' : k < zs.length := by omega
    have hr : 0 ≤ zs.getD k 0 ∧ zs.getD k 0 ≤ 255 := by
      have := range_u8 hwz k
      simpa [List.getD_eq_getElem?_getD] using this
    exact ⟨b, off, rfl, cell_lt hc0, _, hr.1, hr.2, hc0⟩

set_option maxRecDepth 100000 in
set_option maxHeartbeats 400000 in
/-- A cursor is made: a new block; nothing that was there is written. -/
theorem new_any (w : World) (a : Option Addr) (n cap : Nat) (zs : List Int) (hr : IsCode w a n cap zs) :
    Calls Tryd.prog 14 #[.slice a n cap] w fun e w' => e = .returned (.pointer (some ⟨w.heap.size, 0, none⟩)) ∧ CurOk w' w.heap.size a n cap ∧ Below w.heap.size w w' ∧ w'.heap.size = w.heap.size + 1 := by
  obtain ⟨hm, hb⟩ := code_cells hr
  have hm' := hm
  unfold maxLen at hm
  go_enter Tryd.func14, Tryd.ntmps14
  go_wp2
  go_loop [3, 4] (fun h i => ∃ k : Nat, k ≤ n ∧ i = .int .i64 k ∧ ∃ x : Int, h = .int .i64 x) (fun _ i => n - (intOf i).toNat)
  case atStart => exact ⟨0, Nat.zero_le _, rfl, _, rfl⟩
  case round =>
    obtain ⟨k, hk, rfl, x, rfl⟩ := hrel
    by_cases hlt : k < n
    · obtain ⟨b, off, rfl, hbl, u, hu0, hu1, hcell⟩ := hb k hlt
      have HB := Lib.hid hb
      clear hb hr
      by_cases hlt2 : k < 4000
      · go_wp2
        go_round
        case rel => exact ⟨k + 1, by omega, by go_num, _, rfl⟩
        case measure => simp [intOf]; omega
      · go_wp2
        go_ret
        refine ⟨rfl, ⟨hm', ⟨0, x, by omega, by omega, by go_simp, by go_simp, by go_simp⟩, by go_simp, by go_simp, fun k' hk' => ?_⟩, (Below.refl _ _).alloc (Nat.le_refl _) _, by simp⟩
        obtain ⟨b', off', ha, hbl', u', hu0', hu1', hcell'⟩ := HB.out k' hk'
        exact ⟨b', off', ha, by omega, u', hu0', hu1', by go_simp⟩
    · go_wp2
      go_ret
      refine ⟨rfl, ⟨hm', ⟨0, x, by omega, by omega, by go_simp, by go_simp, by go_simp⟩, by go_simp, by go_simp, fun k' hk' => ?_⟩, (Below.refl _ _).alloc (Nat.le_refl _) _, by simp⟩
      obtain ⟨b', off', ha, hbl', u', hu0', hu1', hcell'⟩ := hb k' hk'
      exact ⟨b', off', ha, by omega, u', hu0', hu1', by go_simp⟩
/-- A list of ints lies at block bl: m of them. -/
def IntsAt (w : World) (bl m : Nat) : Prop := ∀ k : Nat, k < m → ∃ v : Int, I64 v ∧ w.cell? ⟨bl, k, none⟩ = some (.int .i64 v)

theorem IntsAt.grown {w w' : World} {bl m bc : Nat} (h : IntsAt w bl m) (hg : w.grownBy w' (some bc)) (hne : bl ≠ bc) : IntsAt w' bl m := fun k hk => by
  obtain ⟨v, hv, hc⟩ := h k hk
  exact ⟨v, hv, hg.cell hc (by simpa using hne)⟩

set_option maxHeartbeats 400000 in
theorem pickInt_any (w : World) (bc : Nat) (a : Option Addr) (n cap : Nat) (bl m cp : Nat) (hm0 : 0 < m) (hm : m ≤ 1000000) (hne : bl ≠ bc) (hl : IntsAt w bl m) (hc : CurOk w bc a n cap) :
    Calls Tryd.prog 27 #[.pointer (some ⟨bc, 0, none⟩), .slice (some ⟨bl, 0, none⟩) m cp] w (Drawn I64 bc a n cap w) := by
  have HL := Lib.hid hl
  clear hl
  go_enter Tryd.func27, Tryd.ntmps27
  go_wp2_with fail
  refine (below_any _ _ _ _ _ _ (by omega) hc).mono ?_
  rintro e w1 ⟨x, ⟨hx0, hx1, -⟩, rfl, hc1, hg1⟩
  obtain ⟨k, rfl⟩ := Int.eq_ofNat_of_zero_le hx0
  have hk := hx1 (by omega)
  obtain ⟨v, hv, hcell⟩ := (HL.out.grown hg1 hne) k (by omega)
  clear hx1
  go_wp2_with fail
  go_ret
  exact ⟨v, hv, rfl, hc1, hg1⟩

/-- A cursor is kept where neither its block nor the code's is written. -/
theorem CurOk.kept {w w' : World} {bc : Nat} {a : Option Addr} {n cap : Nat} {row : Option Nat} (h : CurOk w bc a n cap) (hg : w.grownBy w' row) (hne : some bc ≠ row) (hna : 0 < n → ∀ x, a = some x → some x.block ≠ row) : CurOk w' bc a n cap := by
  obtain ⟨hm, ⟨i, h, hi0, hin, c0, c1, c2⟩, f1, f2, hb⟩ := h
  have hbl : bc < w.heap.size := cell_lt c0
  have hfz : ∀ o, w'.frozen? ⟨bc, o, none⟩ = w.frozen? ⟨bc, o, none⟩ := fun o => World.frozen?_of_block (hg.block bc hbl hne)
  refine ⟨hm, ⟨i, h, hi0, hin, hg.cell c0 hne, hg.cell c1 hne, hg.cell c2 hne⟩, (hfz 1).trans f1, (hfz 2).trans f2, fun k hk => ?_⟩
  obtain ⟨b, off, ha, hbne, u, hu0, hu1, hcell⟩ := hb k hk
  exact ⟨b, off, ha, hbne, u, hu0, hu1, hg.cell hcell (show some b ≠ row from hna (by omega) ⟨b, off, none⟩ ha)⟩

theorem CurOk.alloc {w : World} {bc : Nat} {a : Option Addr} {n cap : Nat} (h : CurOk w bc a n cap) (o : Obj) : CurOk (w.alloc o) bc a n cap :=
  h.kept (World.grownBy_alloc w o none) (by simp) (fun _ _ _ => by simp)

theorem CurOk.lt {w : World} {bc : Nat} {a : Option Addr} {n cap : Nat} (h : CurOk w bc a n cap) : bc < w.heap.size := by
  obtain ⟨_, ⟨_, _, _, _, c0, _⟩, _⟩ := h
  exact cell_lt c0

/-- The code's own block is an old one. -/
theorem CurOk.code_lt {w : World} {bc : Nat} {a : Option Addr} {n cap : Nat} (h : CurOk w bc a n cap) : 0 < n → ∀ x, a = some x → x.block < w.heap.size := by
  obtain ⟨_, _, _, _, hb⟩ := h
  intro hn x hx
  obtain ⟨b, off, ha, _, u, _, _, hcell⟩ := hb 0 hn
  rw [ha] at hx
  obtain rfl := Option.some.inj hx
  exact cell_lt hcell

/-- A cursor is kept where a row of blocks from B on is written, and B lies behind the cursor and the code. -/
theorem CurOk.kept_new {w w' : World} {B bc : Nat} {a : Option Addr} {n cap : Nat} {row : Option Nat} (h : CurOk w bc a n cap) (hg : w.grownBy w' row) (hrow : ∀ k, row = some k → B ≤ k) (hbc : bc < B) (hcode : 0 < n → ∀ x, a = some x → x.block < B) : CurOk w' bc a n cap :=
  h.kept hg (fun e => by have := hrow bc e.symm; omega) (fun hn x hx e => by have := hrow x.block e.symm; have := hcode hn x hx; omega)

/-- What was there before B is written at the cursor alone. -/
theorem grown_new {w wr w' : World} {bc : Nat} {row : Option Nat} (h : w.grownBy wr (some bc)) (hg : wr.grownBy w' row) (hrow : ∀ k, row = some k → w.heap.size ≤ k) : w.grownBy w' (some bc) :=
  ⟨hg.os.trans h.os, hg.tape.trans h.tape, hg.output.trans h.output, Nat.le_trans h.size hg.size, fun k hk hne =>
    (hg.block k (Nat.lt_of_lt_of_le hk h.size) (fun e => by have := hrow k e.symm; omega)).trans (h.block k hk hne)⟩


theorem IsCode.below {w w' : World} {a : Option Addr} {n cap : Nat} {zs : List Int} (hr : IsCode w a n cap zs) (hb : Below w.heap.size w w') : IsCode w' a n cap zs := by
  rcases hr with h | ⟨x, h1, h2, h3, h4, h5, h6⟩
  · exact .inl h
  · exact .inr ⟨x, h1, h2, h3, h4, fun i hi => (hb.cell (cell_lt (h5 i hi))).trans (h5 i hi), h6⟩

theorem kept_block {B bc : Nat} {a b c : World} (hb : Below B a b) (hg : b.grownBy c (some bc)) (hB : B ≤ b.heap.size) (k : Nat) (hk : k < B) (hne : k ≠ bc) :
    (∀ o, c.cell? ⟨k, o, none⟩ = a.cell? ⟨k, o, none⟩) ∧ ∀ o, c.frozen? ⟨k, o, none⟩ = a.frozen? ⟨k, o, none⟩ :=
  have h : c.heap[k]? = a.heap[k]? := (hg.block k (by omega) (by simpa using hne)).trans (hb.block k hk)
  ⟨fun _ => World.cell?_of_block h, fun _ => World.frozen?_of_block h⟩

theorem CurOk.drewN {w : World} {bc : Nat} {a : Option Addr} {n cap : Nat} (h : CurOk w bc a n cap) (k : Nat) : CurOk (w.drewN k) bc a n cap := h

/-- 'big': more than 1048576 bytes. Two contracts, one an answer. -/
theorem big_yes (w : World) (a : Option Addr) (n cap : Nat) (hm : n ≤ 9223372036854775807) (h : 1048576 < n) :
    Calls Tryd.prog 4 #[.slice a n cap] w fun e w' => e = .returned (.bool true) ∧ w = w' := by
  go_enter Tryd.func4, Tryd.ntmps4
  go_wp2
  go_ret
  exact ⟨by simp; omega, rfl⟩
theorem big_no (w : World) (a : Option Addr) (n cap : Nat) (hm : n ≤ 9223372036854775807) (h : ¬ 1048576 < n) :
    Calls Tryd.prog 4 #[.slice a n cap] w fun e w' => e = .returned (.bool false) ∧ w = w' := by
  go_enter Tryd.func4, Tryd.ntmps4
  go_wp2
  go_ret
  exact ⟨by simp; omega, rfl⟩
end Go.Proofs.YtidmhpeaehmmhaaDoor
