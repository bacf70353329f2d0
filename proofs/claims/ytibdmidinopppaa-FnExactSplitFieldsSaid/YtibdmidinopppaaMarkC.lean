/- The laws' marks: 'markText' gives one text for each number; a list of strings is marked, and the marks are read back. -/
import Derived.Test.YtibdmidinopppaaStrsE
import Derived.Test.YtibdmidinopppaaDigsC
import Derived.Deep.RegionHeld3
namespace Go.Proofs.Ytibdmidinopppaa
open Go.ChangeShapes Go.WideShapes Go.ChangeAt Go.RowKit

/-- The mark of a number. -/
def markOf (n : Nat) : ByteArray := strOf (109 :: digs n)

set_option maxHeartbeats 400000 in
theorem mark_any (n : Int) (w : World) (h0 : 0 < n) (h1 : n ≤ 1000000000000000000) :
    Calls Try.prog 29 #[.int .i64 n] w fun e w' => e = .returned (.string (markOf n.toNat)) ∧ Below w.heap.size w w' := by
  have HN := Lib.hid (digs_len n.toNat 19 (by omega))
  go_enter Try.func29, Try.ntmps29
  go_wp2
  go_loopw [0, 3] (fun i s wr => ∃ (m : Nat) (t : List UInt8), (m : Int) ≤ 1000000000000000000 ∧ i = .int .i64 m ∧ s = .string (strOf t) ∧ digs m ++ t = digs n.toNat ∧ Below w.heap.size w wr) (fun i _ _ => (intOf i).toNat)
  case atStart => exact ⟨n.toNat, [], by omega, by rw [Int.toNat_of_nonneg (by omega)], rfl, by simp, Below.refl _ _⟩
  case round =>
    obtain ⟨m, t, hm, rfl, rfl, hd, hbel⟩ := hrel
    have ht : t.length ≤ 19 := by have h1 := congrArg List.length hd; have h2 := HN.out; simp at h1; omega
    by_cases hlt : 0 < m
    · have HD := Lib.hid hd
      clear hd
      obtain ⟨c, hc, hdm⟩ := last_dig m
      have HM := Lib.hid (hdm hlt)
      have hconv := convert_one wr (48 + (m : Int) % 10) c hc
      have hc1 : (48 + (m : Int) % 10) ≤ 57 := by omega
      clear hdm hc
      go_wp2
      refine ⟨⟨m / 10, c :: t, by omega, by go_num, ?_, ?_, hbel.alloc hbel.size _⟩, by simp [intOf]; omega⟩
      · rw [str_append]; rfl
      · have h := HD.out
        rw [HM.out] at h
        simpa using h
    · obtain rfl : m = 0 := by omega
      have HD := Lib.hid hd
      clear hd
      go_wp2
      go_ret
      have h := HD.out
      rw [digs_zero, List.nil_append] at h
      exact ⟨congrArg (fun x => Ending.returned (.string x)) ((str_append [109] t).trans (by rw [h]; rfl)), hbel⟩
/-- The marks from m on, k of them. -/
def marks (m k : Nat) : List ByteArray := (List.range k).map fun i => markOf (m + i)
theorem marks_length (m k : Nat) : (marks m k).length = k := by simp [marks]
theorem marks_succ (m k : Nat) : marks m (k + 1) = marks m k ++ [markOf (m + k)] := by simp [marks, List.range_succ]
theorem marks_at (m n k : Nat) (h : k < n) : (marks m n)[k]'(by rw [marks_length]; exact h) = markOf (m + k) := by simp [marks]

/-- A store into such a slice. -/
theorem OwnsStrs.set {w : World} {B g cap : Nat} {l : List ByteArray} (h : OwnsStrs w B (.slice (some ⟨g, 0, none⟩) l.length cap) l) (k : Nat) (x : ByteArray) :
    OwnsStrs (w.setCell ⟨g, k, none⟩ (.string x)) B (.slice (some ⟨g, 0, none⟩) l.length cap) (l.set k x) := by
  obtain ⟨hl, hv⟩ := h
  refine ⟨by simp, .inr ?_⟩
  rcases hv with ⟨h0, _⟩ | ⟨g', cap', cur, he, hg, hh, hn, hcap, hsz, htake⟩
  · cases h0
  · simp only [Value.slice.injEq, Option.some.injEq, Addr.mk.injEq, and_true, true_and] at he
    obtain ⟨rfl, rfl⟩ := he
    obtain ⟨hlt, hgg⟩ := Array.getElem?_eq_some_iff.1 hh
    refine ⟨g, cap, cur.setIfInBounds k (.string x), by simp, hg, ?_, by simpa using hn, hcap, by simpa using hsz, ?_⟩
    · show (w.heap.modify g _)[g]? = _
      rw [Array.getElem?_eq_getElem (by rw [Array.size_modify]; exact hlt), Array.getElem_modify_self, hgg]
      rfl
    · simp only [List.length_set, Nat.mul_one] at htake ⊢
      rw [Array.toList_setIfInBounds, List.take_set, htake, List.map_set]

theorem grown_of_below {w w' : World} (h : Below w.heap.size w w') (r : Option Nat) : w.grownBy w' r := ⟨h.os, h.tape, h.output, h.size, fun k hk _ => h.block k hk⟩
theorem grown_trans' {a b c : World} {r : Option Nat} (h : a.grownBy b r) (k : b.grownBy c r) : a.grownBy c r :=
  ⟨k.os.trans h.os, k.tape.trans h.tape, k.output.trans h.output, Nat.le_trans h.size k.size, fun i hi hne => (k.block i (Nat.lt_of_lt_of_le hi h.size) hne).trans (h.block i hi hne)⟩
theorem grown_cell (W : World) (b o : Nat) (v : Value) : W.grownBy (W.setCell ⟨b, o, none⟩ v) (some b) :=
  ⟨rfl, rfl, rfl, by simp [World.setCell], fun k _ hk => Below.heap_setCell _ _ _ k (fun e => hk (by rw [e]))⟩

theorem mix_set (l : List ByteArray) (m k : Nat) (hk : k < l.length) : (marks m k ++ l.drop k).set k (markOf (m + k)) = marks m (k + 1) ++ l.drop (k + 1) := by
  rw [List.set_append_right _ _ (Nat.le_of_eq (marks_length m k)), marks_length, Nat.sub_self, marks_succ, List.drop_eq_getElem_cons hk, List.set_cons_zero, List.append_assoc]
  rfl
theorem mix_len (l : List ByteArray) (m k : Nat) (hk : k ≤ l.length) : (marks m k ++ l.drop k).length = l.length := by simp [marks_length]; omega

set_option maxHeartbeats 400000 in
/-- A list is marked: from m on. -/
theorem markStrs (w : World) (B : Nat) (v : Value) (l : List ByteArray) (m : Nat) (hm0 : 0 < m) (hm : m ≤ 1000000) (hl : l.length ≤ 1000000) (h : OwnsStrs w B v l) :
    Calls Try.prog 18 #[v, .int .i64 m] w fun e w' => e = .returned (.int .i64 ((m : Int) + l.length)) ∧ OwnsStrs w' B v (marks m l.length) ∧ w.grownBy w' v.ownBlock := by
  obtain ⟨a, cap, rfl⟩ := h.len
  have H := Lib.hid h
  clear h
  go_enter Try.func18, Try.ntmps18
  go_wp2
  go_loopw [1, 5] (fun q i wr => ∃ k : Nat, k ≤ l.length ∧ i = .int .i64 k ∧ q = .int .i64 ((m : Int) + k) ∧ OwnsStrs wr B (.slice a l.length cap) (marks m k ++ l.drop k) ∧ w.grownBy wr (Value.slice a l.length cap).ownBlock) (fun _ i _ => l.length - (intOf i).toNat)
  case atStart => exact ⟨0, Nat.zero_le _, rfl, by simp, H.out, grown_of_below (Below.refl _ _) _⟩
  case round =>
    obtain ⟨k, hk, rfl, rfl, hown, hgr⟩ := hrel
    by_cases hlt : k < l.length
    · have HO := Lib.hid hown
      have HG := Lib.hid hgr
      clear hown hgr
      go_wp2_with fail
      refine (mark_any _ _ (by omega) (by omega)).mono ?_
      rintro e w1 ⟨rfl, hb1⟩
      have hown1 := HO.out.below hb1
      have hlen := mix_len l m k hk
      rcases hown1.form with ⟨_, h0⟩ | ⟨g, cp, hv, hBg, hg, -, hcell, hfz⟩
      · rw [h0] at hlen; simp at hlen; omega
      obtain ⟨sx, hx⟩ : ∃ sx, w1.cell? ⟨g, k, none⟩ = some (.string sx) := ⟨_, hcell k (by omega)⟩
      have hz := hfz k
      rw [hlen] at hv
      simp only [Value.slice.injEq, true_and] at hv
      obtain ⟨rfl, rfl⟩ := hv
      have H1 := Lib.hid hown1
      have HL := Lib.hid hlen
      clear hcell hfz hown1 hlen
      have hk0 : (0 : Int) ≤ (k : Int) := Int.natCast_nonneg _
      have hk1 : (k : Int) < (l.length : Int) := by omega
      go_wp2_with fail
      go_roundw
      case rel =>
        refine ⟨k + 1, by omega, by go_num, by go_num, ?_, ?_⟩
        · have hs := H1.out
          rw [← HL.out] at hs
          have hs' := hs.set k (markOf (m + k))
          rw [mix_set l m k hlt, HL.out] at hs'
          exact hs'
        · exact grown_trans' HG.out (grown_trans' (grown_of_below hb1 _) (grown_cell _ _ _ _))
      case measure => simp [intOf]; omega
    · obtain rfl : k = l.length := by omega
      go_wp2
      go_ret
      refine ⟨rfl, ?_, hgr⟩
      simpa using hown
theorem cell_lt' {w : World} {a : Addr} {v : Value} (h : w.cell? a = some v) : a.block < w.heap.size := by
  unfold World.cell? at h
  by_cases hb : a.block < w.heap.size
  · exact hb
  · rw [Array.getElem?_eq_none (by omega)] at h
    simp at h

theorem keep_cell {w w' : World} {a : Addr} {v : Value} (hb : Below w.heap.size w w') (h : w.cell? a = some v) : w'.cell? a = some v := (hb.cell (cell_lt' h)).trans h

/-- markText, at a sum of naturals, said with the naturals. -/
theorem mark_at (x : Int) (w : World) (n : Nat) (hx : x = (n : Int)) (h0 : 0 < n) (h1 : n ≤ 1000000000000000000) :
    Calls Try.prog 29 #[.int .i64 x] w fun e w' => e = .returned (.string (markOf n)) ∧ Below w.heap.size w w' := by
  subst hx
  exact mark_any n w (by omega) (by omega)

set_option maxHeartbeats 400000 in
/-- The marks are read back: from m on. -/
theorem heldStrs (w : World) (B : Nat) (v : Value) (n m : Nat) (hm0 : 0 < m) (hm : m ≤ 1000000) (hn : n ≤ 1000000) (h : OwnsStrs w B v (marks m n)) :
    Calls Try.prog 19 #[v, .int .i64 m] w fun e w' => e = .returned (.int .i64 ((m : Int) + n)) ∧ Below w.heap.size w w' := by
  have hml := marks_length m n
  obtain ⟨a, cap, hv⟩ := h.len
  rw [hml] at hv
  subst hv
  have F := Lib.hid h.form
  clear h hml
  go_enter Try.func19, Try.ntmps19
  go_wp2
  go_loopw [1, 5] (fun q i wr => ∃ k : Nat, k ≤ n ∧ i = .int .i64 k ∧ q = .int .i64 ((m : Int) + k) ∧ Below w.heap.size w wr) (fun _ i _ => n - (intOf i).toNat)
  case atStart => exact ⟨0, Nat.zero_le _, rfl, by simp, Below.refl _ _⟩
  case round =>
    obtain ⟨k, hk, rfl, rfl, hbel⟩ := hrel
    by_cases hlt : k < n
    · rcases F.out with ⟨_, h0⟩ | ⟨g, cp, hv, hBg, hg, -, hcell, hfz⟩
      · have := congrArg List.length h0; rw [marks_length] at this; simp at this; omega
      have hx := (hbel.cell (p := ⟨g, k, none⟩) hg).trans (hcell k (by rw [marks_length]; exact hlt))
      rw [marks_at m n k hlt] at hx
      rw [marks_length] at hv
      simp only [Value.slice.injEq, true_and] at hv
      obtain ⟨rfl, rfl⟩ := hv
      clear hcell hfz
      generalize hM : markOf (m + k) = M at hx
      have HM := Lib.hid hM
      clear hM
      have hk0 : (0 : Int) ≤ (k : Int) := Int.natCast_nonneg _
      have hk1 : (k : Int) < (n : Int) := by omega
      go_wp2_with fail
      go_region_held3 (fun w' => w'.cell? ⟨g, k, none⟩ = some (.string M)) (first | go_keep | exact keep_cell ‹_› ‹_›)
        ((go_at_call 29; refine (mark_at _ _ (m + k) ?_ ?_ ?_).mono ?_; (omega); (omega); (omega); rw [HM.out]; rintro e w1 ⟨rfl, hb1⟩))
      have hbel1 := hbel.drew.trans (hb1.mono hbel.size)
      clear hbel hb1
      go_wp2
      go_roundw
      case rel => exact ⟨k + 1, by omega, by go_num, by go_num, hbel1⟩
      case measure => simp [intOf]; omega
    · obtain rfl : k = n := by omega
      go_wp2
      go_ret
      exact ⟨rfl, hbel⟩
/-- The same two, from 1 on, as the laws call them. -/
theorem markStrs1 (w : World) (B : Nat) (v : Value) (l : List ByteArray) (hl : l.length ≤ 1000000) (h : OwnsStrs w B v l) :
    Calls Try.prog 18 #[v, .int .i64 1] w fun e w' => e = .returned (.int .i64 (1 + (l.length : Int))) ∧ OwnsStrs w' B v (marks 1 l.length) ∧ w.grownBy w' v.ownBlock :=
  markStrs w B v l 1 (by omega) (by omega) hl h
theorem heldStrs1 (w : World) (B : Nat) (v : Value) (n : Nat) (hn : n ≤ 1000000) (h : OwnsStrs w B v (marks 1 n)) :
    Calls Try.prog 19 #[v, .int .i64 1] w fun e w' => e = .returned (.int .i64 (1 + (n : Int))) ∧ Below w.heap.size w w' :=
  heldStrs w B v n 1 (by omega) (by omega) hn h

/-- A list is kept where another's row is written. -/
theorem OwnsStrs.kept_row {w w' : World} {B : Nat} {v : Value} {l : List ByteArray} {row : Option Nat} (h : OwnsStrs w B v l) (hg : w.grownBy w' row) (hne : ∀ k, v.ownBlock = some k → row ≠ some k) : OwnsStrs w' B v l :=
  World.ownsRow.kept h hg (by
    cases hv : v.ownBlock with
    | none => exact .inl rfl
    | some k => exact .inr (fun e => hne k hv e.symm))
end Go.Proofs.Ytibdmidinopppaa
