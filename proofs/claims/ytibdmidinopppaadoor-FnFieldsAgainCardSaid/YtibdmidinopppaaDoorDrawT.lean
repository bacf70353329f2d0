/- The contracts of the draws of texts: a drawn text is no longer than asked; nothing old is written but the cursor. -/
import Derived.Test.YtibdmidinopppaaDoorDrawC
import Derived.Test.YtibdmidinopppaaDoorBytesC
import Derived.Deep.AppendLies
namespace Go.Proofs.YtibdmidinopppaaDoor
open Go.ChangeShapes Go.WideShapes Go.ChangeAt Go.RowKit

/-- A text of m bytes was drawn. -/
def DrawnS (m : Int) (bc : Nat) (a : Option Addr) (n cap : Nat) (w : World) (e : Ending) (w' : World) : Prop :=
  ∃ l : List UInt8, (l.length : Int) = m ∧ e = .returned (.string (strOf l)) ∧ CurOk w' bc a n cap ∧ w.grownBy w' (some bc)

theorem OwnsBytes.kept {w w' : World} {B : Nat} {v : Value} {l : List UInt8} {row : Option Nat} (h : OwnsBytes w B v l) (hg : w.grownBy w' row) (hne : ∀ k, v.ownBlock = some k → row ≠ some k) : OwnsBytes w' B v l :=
  World.ownsRow.kept h hg (by
    cases hv : v.ownBlock with
    | none => exact .inl rfl
    | some k => exact .inr (fun e => hne k hv e.symm))

theorem bytes_snoc {w1 : World} {B : Nat} {v : Value} {r : List UInt8} {x : Int} (h0 : 0 ≤ x) (h1 : x ≤ 255)
    (h : w1.ownsRow B 5 1 v (r.length + 1) (bv r ++ [.int .u8 x])) : OwnsBytes w1 B v (r ++ [UInt8.ofNat x.toNat]) := by
  unfold OwnsBytes
  rw [bv_append, List.length_append]
  have e : bv [UInt8.ofNat x.toNat] = [.int .u8 x] := by
    simp only [bv, List.map_cons, List.map_nil, UInt8.toNat_ofNat']
    rw [show ((x.toNat % 2 ^ 8 : Nat) : Int) = x by omega]
  rw [e]
  exact h

/-- The relation of the drawing loop. -/
def TextRel (m : Int) (B bc : Nat) (a : Option Addr) (n cap : Nat) (w : World) (v i : Value) (wr : World) : Prop :=
  ∃ l : List UInt8, (l.length : Int) ≤ m ∧ i = .int .i64 l.length ∧ OwnsBytes wr B v l ∧ CurOk wr bc a n cap ∧ w.grownBy wr (some bc)

set_option maxHeartbeats 400000 in
theorem text_any (w : World) (bc : Nat) (a : Option Addr) (n cap : Nat) (m : Int) (h0 : 0 ≤ m) (h1 : m ≤ 5000) (hc : CurOk w bc a n cap) :
    Calls Tryd.prog 25 #[.pointer (some ⟨bc, 0, none⟩), .int .i64 m] w (DrawnS m bc a n cap w) := by
  obtain ⟨i0, hi0, hz0, hz1, hz2⟩ := info_parts Tryd.infoByte
  have hlt := hc.lt
  have HCL := Lib.hid hc.code_lt
  go_enter Tryd.func25, Tryd.ntmps25
  go_wp2_with fail
  go_loopw [5, 6] (fun v i wr => TextRel m w.heap.size bc a n cap w v i wr) (fun _ i _ => (m - intOf i).toNat)
  case atStart => exact ⟨[], by simpa using h0, rfl, World.ownsRow_made w #[] 0 (Nat.le_refl _) (Nat.zero_le _) rfl, hc.alloc _, World.grownBy_alloc _ _ _⟩
  case round =>
    obtain ⟨l, hl, rfl, hown, hcr, hgr⟩ := hrel
    by_cases hk : (l.length : Int) < m
    · have HO := Lib.hid hown
      clear hown
      go_wp2_with fail
      refine (byte_any _ _ _ _ _ hcr).mono ?_
      rintro e w1 ⟨x, ⟨hx0, hx1⟩, rfl, hc1, hg1⟩
      have hown1 := HO.out.kept hg1 (fun k hk e => by have := (HO.out.lt k hk).1; injection e with e; omega)
      have hgr1 := grown_trans hgr hg1
      have HO1 := Lib.hid hown1
      have hsz := hgr1.size
      clear hown1 hcr hgr hg1
      go_wp2_with (at_builtin; refine wpList_append_lies _ rfl _ _ _ rfl w.heap.size 5 i0 _ 1 1 Tryd.underlying22 hi0 hz0 hz1 hz2 rfl (by omega) u5 _ _ (by rfl) (HO1.out.alloc _) ⟨w1.heap.size, 0, none⟩ 1 1 [.int .u8 x] (by rfl) (by rfl) (World.news_of_block (cs := #[.int .u8 x]) (t := 5) (fr := (0, 0)) (heap_alloc_new w1 _)) (by simp [Value.oneCell']) (by omega) (by unfold maxLen; omega) (by omega) (by simp; omega) (w1.heap.size + 1) (by simp) ?_; intro gg cp w2 hown2 hgrow hat hgl)
      have hrow : ∀ k, u5.ownBlock = some k → w.heap.size ≤ k := fun k hk => (HO1.out.lt k hk).1
      have hg2 : w1.grownBy w2 u5.ownBlock := ⟨hgrow.os, hgrow.tape, hgrow.output, by have := hgrow.size; simp at this; omega, fun k hk hne => (hgrow.block k (by simp; omega) hne).trans (Below.heap_alloc _ _ _ (by omega))⟩
      refine ⟨⟨l ++ [UInt8.ofNat x.toNat], by simp; omega, by simp, bytes_snoc hx0 hx1 hown2, hc1.kept_new hg2 hrow hlt HCL.out, grown_new hgr1 hg2 hrow⟩, by simp [intOf]; omega⟩
    · have hconv := convert_owned hown
      clear hown
      go_wp2_with fail
      go_ret
      exact ⟨l, by omega, rfl, hcr, hgr⟩
theorem made_bytes (k : Nat) : (madeCells (Value.int .u8 0).cells (k * 1)).toList = bv (List.replicate k 0) := by
  have hc : (Value.int .u8 0).cells = #[Value.int .u8 0] := rfl
  rw [hc, Nat.mul_one]
  apply List.ext_getElem
  · simp [madeCells, bv]
  · intro i h1 h2
    simp [madeCells, bv, Nat.mod_one]

theorem OwnsBytes.at {w : World} {B g cap : Nat} {l : List UInt8} (h : OwnsBytes w B (.slice (some ⟨g, 0, none⟩) l.length cap) l) (k : Nat) (hk : k < l.length) :
    (∃ x, w.cell? ⟨g, k, none⟩ = some (.int .u8 x)) ∧ w.frozen? ⟨g, k, none⟩ = false := by
  constructor
  · have hc := World.ownsRow.cells h (g := g) rfl k (.int .u8 (l[k].toNat : Int)) (by simp [bv, hk])
    rw [Addr.add_lit, Nat.zero_add] at hc
    exact ⟨_, hc⟩
  · rcases h.2 with ⟨h0, _⟩ | ⟨g', cap', cur, he, hg, hh, _⟩
    · cases h0
    · simp only [Value.slice.injEq, Option.some.injEq, Addr.mk.injEq, and_true, true_and] at he
      obtain ⟨rfl, rfl⟩ := he
      simp [World.frozen?, hh]

theorem OwnsBytes.set {w : World} {B g cap : Nat} {l : List UInt8} (h : OwnsBytes w B (.slice (some ⟨g, 0, none⟩) l.length cap) l) (k : Nat) (c : UInt8) :
    OwnsBytes (w.setCell ⟨g, k, none⟩ (.int .u8 (c.toNat : Int))) B (.slice (some ⟨g, 0, none⟩) l.length cap) (l.set k c) := by
  obtain ⟨hl, hv⟩ := h
  refine ⟨by simp [bv], .inr ?_⟩
  rcases hv with ⟨h0, _⟩ | ⟨g', cap', cur, he, hg, hh, hn, hcap, hsz, htake⟩
  · cases h0
  · simp only [Value.slice.injEq, Option.some.injEq, Addr.mk.injEq, and_true, true_and] at he
    obtain ⟨rfl, rfl⟩ := he
    obtain ⟨hlt, hgg⟩ := Array.getElem?_eq_some_iff.1 hh
    refine ⟨g, cap, cur.setIfInBounds k (.int .u8 (c.toNat : Int)), by simp, hg, ?_, by simpa using hn, hcap, by simpa using hsz, ?_⟩
    · show (w.heap.modify g _)[g]? = _
      rw [Array.getElem?_eq_getElem (by rw [Array.size_modify]; exact hlt), Array.getElem_modify_self, hgg]
      rfl
    · simp only [List.length_set, Nat.mul_one, bv] at htake ⊢
      rw [Array.toList_setIfInBounds, List.take_set, htake, List.map_set]

/-- A text of m equal bytes. -/
def LongS (m : Int) (w : World) (e : Ending) (w' : World) : Prop := ∃ l : List UInt8, (l.length : Int) = m ∧ e = .returned (.string (strOf l)) ∧ Below w.heap.size w w'

set_option maxHeartbeats 400000 in
theorem long_any (w : World) (m x : Int) (h0 : 0 ≤ m) (h1 : m ≤ 100000) (hx0 : 0 ≤ x) (hx1 : x ≤ 255) :
    Calls Tryd.prog 23 #[.int .i64 m, .int .u8 x] w (LongS m w) := by
  obtain ⟨i0, hi0, hz0, hz1, hz2⟩ := info_parts Tryd.infoByte
  obtain ⟨n, rfl⟩ := Int.eq_ofNat_of_zero_le h0
  obtain ⟨c, hc⟩ : ∃ c : UInt8, (c.toNat : Int) = x := ⟨UInt8.ofNat x.toNat, by rw [UInt8.toNat_ofNat']; omega⟩
  subst hc
  go_enter Tryd.func23, Tryd.ntmps23
  go_wp2_with (at_make; refine wpList_make_full _ rfl _ _ 22 rfl w.heap.size 5 i0 (.int .u8 0) 1 Tryd.underlying22 hi0 hz0 hz1 .i64 .i64 _ _ n rfl rfl rfl rfl (by rw [hz2]; omega) (by unfold maxLen; omega) (Nat.le_refl _) ?_; intro w0 hown0 hgrow0)
  go_loopw [6] (fun i wr => ∃ (k : Nat) (l : List UInt8), k ≤ n ∧ l.length = n ∧ i = .int .i64 k ∧ OwnsBytes wr w.heap.size (.slice (some ⟨w.heap.size, 0, none⟩) n n) l ∧ Below w.heap.size w wr) (fun i _ => n - (intOf i).toNat)
  case atStart =>
    refine ⟨0, List.replicate n 0, Nat.zero_le _, by simp, rfl, ?_, (Below.refl _ _).grown hgrow0 (Nat.le_refl _) (fun k hk => by cases hk)⟩
    rw [made_bytes] at hown0
    unfold OwnsBytes
    rw [List.length_replicate]
    exact hown0
  case round =>
    clear hown0 hgrow0 w0
    obtain ⟨k, l, hk, hl, rfl, hown, hbel⟩ := hrel
    subst hl
    by_cases hlt : k < l.length
    · obtain ⟨⟨y, hcell⟩, hfz⟩ := hown.at k hlt
      have hk0 : (0 : Int) ≤ (k : Int) := Int.natCast_nonneg _
      have hk1 : (k : Int) < (l.length : Int) := by omega
      have HO := Lib.hid hown
      clear hown
      go_wp2_with fail
      refine ⟨⟨k + 1, l.set k c, by omega, by simp, by go_num, ?_, hbel.setCell (Nat.le_refl _) _⟩, by simp [intOf]; omega⟩
      exact HO.out.set k c
    · have hconv := convert_owned hown
      clear hown
      go_wp2_with fail
      go_ret
      exact ⟨l, rfl, rfl, hbel⟩
end Go.Proofs.YtibdmidinopppaaDoor
