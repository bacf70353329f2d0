/- The draw of loads on a drawn arch. -/
import Derived.Test.YtbmlcfdilopmgaaDrawP
import Derived.Test.YtbmlcfdilopmgaaArchS
import Derived.Test.YtbmlcfdilopmgaaGLoad
import Derived.Deep.AppendLies
import Derived.Deep.RegionLaw
namespace Go.Proofs.Ytbmlcfdilopmgaa
set_option maxRecDepth 100000
open Go.ChangeShapes Go.WideShapes Go.ChangeAt Go.RowKit

/-- A drawn load: on a stone of n joints, light, not far from the middle. -/
def LdNear (n : Nat) (l : Ld) : Prop := (0 ≤ l.1 ∧ l.1 ≤ (n : Int) - 2) ∧ (0 ≤ l.2.1 ∧ l.2.1 ≤ 200) ∧ -22 ≤ l.2.2 ∧ l.2.2 ≤ 25
theorem LdNear.ok {n : Nat} {l : Ld} (h : LdNear n l) : ldOk n l = true := ldOk_iff.2 ⟨h.1, by have := h.2.1; omega, by have := h.2.2; omega⟩
def LdsNear (n : Nat) (ls : List Ld) : Prop := ∀ i, i < ls.length → LdNear n (ld ls i)
theorem LdsNear.snoc {n : Nat} {ls : List Ld} {l : Ld} (h : LdsNear n ls) (hl : LdNear n l) : LdsNear n (ls ++ [l]) := fun i hi => by
  by_cases he : i < ls.length
  · rw [ld_app1 he]; exact h i he
  · have : i = ls.length := by simp at hi; omega
    rw [this, ld_app2]; exact hl

/-- What the draw of loads keeps: the cursor; of what was there it alone is written; the arch and its box. -/
def LBase (w W : World) (bc : Nat) (a : Option Addr) (n cap B ga nj ca : Nat) (js : List Jt) : Prop :=
  CurOk W bc a n cap ∧ w.grownBy W (some bc) ∧ W.cell? ⟨w.heap.size, 0, none⟩ = some (.slice (some ⟨ga, 0, none⟩) nj ca) ∧ JRowAt W B ga ca js ∧ bc < w.heap.size ∧ bc ≠ ga ∧ ga < w.heap.size ∧ (0 < n → ∀ x, a = some x → x.block < w.heap.size)
theorem LBase.drew {w W W' : World} {bc n cap B ga nj ca : Nat} {a : Option Addr} {js : List Jt} (h : LBase w W bc a n cap B ga nj ca js) (hc : CurOk W' bc a n cap) (hg : W.grownBy W' (some bc)) : LBase w W' bc a n cap B ga nj ca js :=
  ⟨hc, grown_trans h.2.1 hg, (World.grownBy.cell_far hg ⟨w.heap.size, 0, none⟩ (cell_block_lt h.2.2.1) (by have := h.2.2.2.2.1; simp; omega)).trans h.2.2.1, World.ownsRow.kept h.2.2.2.1 hg (.inr (by have := h.2.2.2.2.2.1; simp [Value.ownBlock]; omega)), h.2.2.2.2⟩
theorem LBase.kept {w W W' : World} {bc n cap B ga nj ca : Nat} {a : Option Addr} {js : List Jt} {row : Option Nat} (h : LBase w W bc a n cap B ga nj ca js) (hg : W.grownBy W' row) (hrow : ∀ k, row = some k → w.heap.size + 1 ≤ k) : LBase w W' bc a n cap B ga nj ca js :=
  ⟨h.1.kept_new hg (B := w.heap.size) (fun k hk => by have := hrow k hk; omega) h.2.2.2.2.1 h.2.2.2.2.2.2.2, grown_new h.2.1 hg (fun k hk => by have := hrow k hk; omega),
    (World.grownBy.cell_far hg ⟨w.heap.size, 0, none⟩ (cell_block_lt h.2.2.1) (fun e => by have := hrow _ e.symm; simp at this; omega)).trans h.2.2.1,
    World.ownsRow.kept h.2.2.2.1 hg (.inr (fun e => by simp [Value.ownBlock] at e; have := hrow _ e.symm; have := h.2.2.2.2.2.2.1; omega)), h.2.2.2.2⟩
theorem LBase.alloc {w W : World} {bc n cap B ga nj ca : Nat} {a : Option Addr} {js : List Jt} (h : LBase w W bc a n cap B ga nj ca js) (o : Obj) : LBase w (W.alloc o) bc a n cap B ga nj ca js :=
  h.kept (World.grownBy_alloc W o none) (fun k hk => by cases hk)
/-- A row of loads behind the draw's own box is kept where the cursor is written. -/
theorem lrow_drew {w w' : World} {B m bc : Nat} {v : Value} {xs : List Value} (h : w.ownsRow B 82 3 v m xs) (hg : w.grownBy w' (some bc)) (hne : bc < B) : w'.ownsRow B 82 3 v m xs :=
  World.ownsRow.kept h hg (by
    cases hv : v.ownBlock with
    | none => exact .inl rfl
    | some k => exact .inr (fun e => by have := (World.ownsRow.lt h k hv).1; injection e with e; omega))

/-- Loads were drawn, in new memory; of what was there the cursor alone was written. -/
def DrawnLoads (bc nj : Nat) (w : World) (e : Ending) (w' : World) : Prop :=
  ∃ (v : Value) (ls : List Ld), e = .returned v ∧ LRow w' w.heap.size v ls ∧ ls.length ≤ 3 ∧ LdsNear nj ls ∧ w.grownBy w' (some bc)

set_option maxRecDepth 100000 in
set_option maxHeartbeats 4000000 in
theorem loads_cur (w : World) (bc : Nat) (a : Option Addr) (n cap B ga nj ca : Nat) (js : List Jt) (hc : CurOk w bc a n cap) (hr : JRowAt w B ga ca js) (hn : js.length = nj) (hf : Fine 4 js) (hb : bc ≠ ga) :
    Calls Try.prog 49 #[.pointer (some ⟨bc, 0, none⟩), .agg #[.slice (some ⟨ga, 0, none⟩) nj ca]] w fun e w' => DrawnLoads bc nj w e w' ∧ CurOk w' bc a n cap := by
  obtain ⟨i0, hi0, hz0, hz1, hz2⟩ := info_parts Try.infoLn
  have h38 := arch_size hf.1
  rw [hn] at h38
  obtain ⟨h3, h8⟩ := h38
  obtain ⟨-, hgw, hcap, hcm⟩ := hr.lt
  rw [hn] at hcap
  unfold maxLen at hcm
  have hbase : LBase w (w.alloc (.cells #[.slice (some ⟨ga, 0, none⟩) nj ca] 26)) bc a n cap B ga nj ca js :=
    ⟨hc.alloc _, World.grownBy_alloc _ _ _, by go_simp, hr.below ((Below.refl w.heap.size w).alloc (Nat.le_refl _) _), hc.lt, hb, hgw, hc.code_lt⟩
  have hbw : bc < w.heap.size := hc.lt
  have HB1 := Lib.hid (hbase.alloc (.cells #[] 82))
  have hown0 : ((w.alloc (.cells #[.slice (some ⟨ga, 0, none⟩) nj ca] 26)).alloc (.cells #[] 82)).ownsRow (w.heap.size + 1) 82 3 (.slice (some ⟨w.heap.size + 1, 0, none⟩) 0 0) 0 (flatL []) := by
    have := World.ownsRow_lit (base := w.heap.size + 1) (e := 82) (size := 3) (w.alloc (.cells #[.slice (some ⟨ga, 0, none⟩) nj ca] 26)) #[] 0 (by simp) (Nat.zero_le _) rfl
    simp only [World.size_alloc] at this
    exact this
  have HO0 := Lib.hid hown0
  have HN := Lib.hid hn
  have HCL := Lib.hid hf.2
  clear hr hc hbase hn hf hown0
  go_enter Try.func49, Try.ntmps49
  go_wp2_with fail
  refine (below_any _ _ _ _ _ _ (by omega) HB1.out.1).mono ?_
  rintro e w1 ⟨x, ⟨hx0, hx1, -⟩, rfl, hc1, hg1⟩
  have hx2 := hx1 (by omega)
  obtain ⟨q, rfl⟩ : ∃ q : Nat, x = (q : Int) := ⟨x.toNat, by omega⟩
  have HL1 := Lib.hid (HB1.out.drew hc1 hg1)
  have HO1 := Lib.hid (lrow_drew HO0.out hg1 (by omega))
  clear hx1 hc1 hg1 HB1 HO0
  go_wp2_with fail
  go_loopw [5, 7] (fun v t wr => ∃ (k : Nat) (ls : List Ld), k ≤ q ∧ t = .int .i64 k ∧ ls.length = k ∧ LdsNear nj ls ∧ LBase w wr bc a n cap B ga nj ca js ∧ wr.ownsRow (w.heap.size + 1) 82 3 v k (flatL ls))
    (fun _ t _ => q - (intOf t).toNat)
  case atStart => exact ⟨0, [], Nat.zero_le _, rfl, rfl, fun i hi => absurd hi (Nat.not_lt_zero i), HL1.out, HO1.out⟩
  case round =>
    clear HL1 HO1
    obtain ⟨k, ls, hk, rfl, hlen, hnear, hL, hown⟩ := hrel
    have hrow := hown
    rw [← hlen] at hrow
    obtain ⟨va, vc, hv, hvc, hvm⟩ := lrow_slice (show LRow wr (w.heap.size + 1) _ ls from hrow)
    rw [hlen] at hv hvc
    subst hv
    unfold maxLen at hvm
    have HL := Lib.hid hL
    have HO := Lib.hid hown
    have HK := Lib.hid hlen
    have HNR := Lib.hid hnear
    have sb := hL.2.2.1
    clear hrow hlen hnear hL hown
    by_cases hlt : k < q
    · have e1 : IntKind.i64.wrap ((nj : Int) - 1) = (nj : Int) - 1 := IntWalk.i64_in _ (by omega)
      go_wp2_with fail
      refine (below_any _ _ _ _ _ _ (by omega) HL.out.1).mono ?_
      rintro e w2 ⟨x, ⟨hi0', hi1', -⟩, rfl, hc2, hg2⟩
      have hi2 := hi1' (by omega)
      obtain ⟨i, rfl⟩ : ∃ i : Nat, x = (i : Int) := ⟨x.toNat, by omega⟩
      have HL2 := Lib.hid (HL.out.drew hc2 hg2)
      have HO2 := Lib.hid (lrow_drew HO.out hg2 (by omega))
      clear hi1' hc2 hg2 HL HO sb
      have hlw2 : bc < w2.heap.size := HL2.out.1.lt
      go_wp2_with fail
      refine (pickInt_of (fun v => 0 ≤ v ∧ v ≤ 200) _ bc a n cap w2.heap.size 5 5 (by omega) (by omega) (by omega) ?_ (HL2.out.1.alloc _)).mono ?_
      · intro k hk
        match k, hk with
        | 0, _ => exact ⟨0, by omega, by go_simp⟩
        | 1, _ => exact ⟨6, by omega, by go_simp⟩
        | 2, _ => exact ⟨20, by omega, by go_simp⟩
        | 3, _ => exact ⟨60, by omega, by go_simp⟩
        | 4, _ => exact ⟨200, by omega, by go_simp⟩
      rintro e w3 ⟨y, hy, rfl, hc3, hg3⟩
      have HL3 := Lib.hid ((HL2.out.alloc _).drew hc3 hg3)
      have HO3 := Lib.hid (lrow_drew (World.ownsRow.alloc HO2.out _) hg3 (by omega))
      have hin : i < js.length := by rw [HN.out]; omega
      obtain ⟨-, -, r2, -⟩ := HL3.out.2.2.2.1.cells i hin
      have hX := (HCL.out i hin).2.2.1
      have hX' : -22 ≤ (jt js i).2.1 ∧ (jt js i).2.1 ≤ 22 := by omega
      clear hX
      have sb := HL3.out.2.2.1
      generalize (jt js i).2.1 = X at *
      have hii : (i : Int) < (nj : Int) := by omega
      have hin0 : (0 : Int) ≤ (i : Int) := Int.natCast_nonneg _
      have hga : ga ≠ w.heap.size := by have := HL3.out.2.2.2.2.2.2.1; omega
      clear hc3 hg3 HL2 HO2 hin
      go_wp2_with fail
      go_region_law
        (first
          | (go_simp; go_at_call 68
             refine (below_any _ bc a n cap 4 (by omega) (by first | exact HL3.out.1 | exact HL3.out.1.drewN _)).mono ?_
             rintro e w4 ⟨x, ⟨hx0, hx1, -⟩, rfl, hc4, hg4⟩
             have hx3 := hx1 (by omega)
             have hXx : IntKind.i64.wrap (X + x) = X + x := IntWalk.i64_in _ (by omega)
             have hg4' : w3.grownBy w4 (some bc) := ⟨hg4.os, hg4.tape, hg4.output, hg4.size, hg4.block⟩
             have HL4 : RowKit.Hid (LBase w w4 bc a n cap B ga nj ca js) := Lib.hid (HL3.out.drew hc4 hg4')
             have HO4 : RowKit.Hid (w4.ownsRow (w.heap.size + 1) 82 3 (.slice va k vc) k (flatL ls)) := Lib.hid (lrow_drew HO3.out hg4' (by omega))
             have hsz4 := HL4.out.2.1.size
             have sb4 : w4.cell? ⟨w.heap.size, 0, none⟩ = some (.slice (some ⟨ga, 0, none⟩) nj ca) := HL4.out.2.2.1
             have r24 : w4.cell? ⟨ga, i * 4 + 2, none⟩ = some (.int .i64 X) := (World.grownBy.cell_far hg4' ⟨ga, i * 4 + 2, none⟩ (cell_block_lt r2) (by have := HL3.out.2.2.2.2.2.1; simp; omega)).trans r2
             clear hc4 hg4 hg4' hx1)
          | (refine step_append_lies _ (by rfl) _ _ _ (by rfl) (w.heap.size + 1) 82 i0 _ 3 24 Try.underlying27 hi0 hz0 hz1 hz2 rfl (by omega) (.slice va k vc) _ _ (by rfl) (World.ownsRow.alloc HO4.out _)
              ⟨w4.heap.size, 0, none⟩ 1 1 [.int .i64 i, .int .i64 y, .int .i64 (X + x)] (by rfl) (by rfl) (World.news_of_block (cs := #[.int .i64 i, .int .i64 y, .int .i64 (X + x)]) (t := 82) (fr := (0, 0)) (heap_alloc_new w4 _)) (by simp [Value.oneCell'])
              (by omega) (by unfold maxLen; omega) (by omega) (by simp; omega) (w4.heap.size + 1) (by simp) ?_; intro gg cp w5 hown5 hgrow5 hat hgl))
      all_goals
        have HR5 : RowKit.Hid (w5.ownsRow (w.heap.size + 1) 82 3 (.slice (some ⟨gg, 0, none⟩) (k + 1) cp) (k + 1) (flatL (ls ++ [((i : Int), y, X + x)]))) := Lib.hid (by rw [flatL_append]; exact hown5)
        have HL5 : RowKit.Hid (LBase w w5 bc a n cap B ga nj ca js) := Lib.hid ((HL4.out.alloc _).kept hgrow5 (fun j hj => (World.ownsRow.lt HO4.out j hj).1))
        have HNR5 : RowKit.Hid (LdsNear nj (ls ++ [((i : Int), y, X + x)])) := Lib.hid (HNR.out.snoc ⟨⟨by dsimp only; omega, by dsimp only; omega⟩, hy, by dsimp only; omega, by dsimp only; omega⟩)
        clear hown5 hgrow5 hat hgl sb sb4 r2 r24
        go_wp2_with fail
        go_roundw
      all_goals first
        | exact ⟨k + 1, _, by omega, by go_num, by rw [List.length_append, HK.out]; rfl, HNR5.out, HL5.out, HR5.out⟩
        | (simp [intOf]; omega)
    · have hkq : k = q := by omega
      go_wp2_with fail
      go_ret
      refine ⟨⟨_, ls, rfl, ?_, by rw [HK.out]; omega, HNR.out, HL.out.2.1⟩, HL.out.1⟩
      unfold LRow
      rw [HK.out]
      exact owns_base HO.out (Nat.le_succ _)
theorem loads_any (w : World) (bc : Nat) (a : Option Addr) (n cap B ga nj ca : Nat) (js : List Jt) (hc : CurOk w bc a n cap) (hr : JRowAt w B ga ca js) (hn : js.length = nj) (hf : Fine 4 js) (hb : bc ≠ ga) :
    Calls Try.prog 49 #[.pointer (some ⟨bc, 0, none⟩), .agg #[.slice (some ⟨ga, 0, none⟩) nj ca]] w (DrawnLoads bc nj w) := (loads_cur w bc a n cap B ga nj ca js hc hr hn hf hb).mono fun _ _ h => h.1
end Go.Proofs.Ytbmlcfdilopmgaa
