/- Corners: the contract of the program's appendCorner. -/
import Derived.Test.YtdaiffaedejnbaaThreeK
import Derived.Test.YtdaiffaedejnbaaThreeQ
import Derived.Test.YtdaiffaedejnbaaThreeH
import Derived.Test.YtdaiffaedejnbaaStepC
namespace Go.Proofs.Ytdaiffaedejnbaa
set_option maxRecDepth 100000
open Go.ChangeShapes Go.WideShapes Go.ChangeAt Go.RowKit

theorem g_of_below {w w' : World} (h : Below w.heap.size w w') (r : Option Nat) : w.grownBy w' r := ⟨h.os, h.tape, h.output, h.size, fun k hk _ => h.block k hk⟩
theorem g_trans {a b c : World} {r : Option Nat} (h : a.grownBy b r) (k : b.grownBy c r) : a.grownBy c r :=
  ⟨k.os.trans h.os, k.tape.trans h.tape, k.output.trans h.output, Nat.le_trans h.size k.size, fun j hj hne => (k.block j (Nat.lt_of_lt_of_le hj h.size) hne).trans (h.block j hj hne)⟩
theorem Try.infoTr : (Try.prog.info? 29).map (fun i => (i.zero, i.size, i.bytes)) = some (some (.agg #[.int .i64 0, .int .i64 0, .int .i64 0, .int .i64 0]), 4, 32) := by kernel_rfl
/-- A value's own block is another one, or one that was made since. -/
def OwnNew (w : World) (v v' : Value) : Prop := v'.ownBlock = v.ownBlock ∨ ∃ g, v'.ownBlock = some g ∧ w.heap.size ≤ g
/-- The list of corners as it is handed back. -/
def CoAns (w : World) (B : Nat) (v : Value) (l : List Cd) (e : Ending) (w' : World) : Prop := ∃ v', e = .returned v' ∧ ThRow w' B v' l ∧ w.grownBy w' v.ownBlock ∧ OwnNew w v v'

set_option maxRecDepth 100000 in
set_option maxHeartbeats 4000000 in
theorem appendCorner (w : World) (B B2 n cap m rc : Nat) (a ra : Option Addr) (l rs : List Cd) (a1 b1 c1 d1 a2 b2 c2 d2 a3 b3 c3 d3 : Int) (hl : Ths w B a n cap l) (hB : B ≤ w.heap.size) (hn : n ≤ 1000000) (hr : Cds w B2 ra m rc rs) (hok : coOk rs = true) :
    Calls Try.prog 54 #[.slice a n cap, .slice ra m rc, .agg #[.int .i64 a1, .int .i64 b1, .int .i64 c1, .int .i64 d1, .int .i64 a2, .int .i64 b2, .int .i64 c2, .int .i64 d2, .int .i64 a3, .int .i64 b3, .int .i64 c3, .int .i64 d3]] w (CoAns w B (.slice a n cap) (coAdd rs l (a1, b1, c1, d1) (a2, b2, c2, d2) (a3, b3, c3, d3))) := by
  obtain ⟨i0, hi0, hz0, hz1, hz2⟩ := info_parts Try.infoTr
  obtain ⟨hcc, hcm⟩ := hl.cap
  unfold maxLen at hcm
  have hal := cd_al w (.cells #[.int .i64 a1, .int .i64 b1, .int .i64 c1, .int .i64 d1, .int .i64 a2, .int .i64 b2, .int .i64 c2, .int .i64 d2, .int .i64 a3, .int .i64 b3, .int .i64 c3, .int .i64 d3] 73)
  have HB0 := Lib.hid hal
  have HL0 := Lib.hid (hl.below hal)
  have HR0 := Lib.hid (hr.below hal)
  have HBB := Lib.hid hB
  have HLL := Lib.hid hl.2
  have HS := Lib.hid (fun w => implSolveRows a1 b1 c1 d1 a2 b2 c2 d2 a3 b3 c3 d3 w)
  have HF := Lib.hid (fun (h : soB (a1, b1, c1, d1) (a2, b2, c2, d2) (a3, b3, c3, d3) = true) => coOk_ful hok h)
  have HA := Lib.hid (coAdd_no (rs := rs) (l := l) (p := (a1, b1, c1, d1)) (q := (a2, b2, c2, d2)) (r := (a3, b3, c3, d3)))
  have HC := Lib.hid (coAdd_ful (rs := rs) (l := l) (p := (a1, b1, c1, d1)) (q := (a2, b2, c2, d2)) (r := (a3, b3, c3, d3)))
  have HD := Lib.hid (coAdd_in (rs := rs) (l := l) (p := (a1, b1, c1, d1)) (q := (a2, b2, c2, d2)) (r := (a3, b3, c3, d3)))
  have HY := Lib.hid (coAdd_yes (rs := rs) (l := l) (p := (a1, b1, c1, d1)) (q := (a2, b2, c2, d2)) (r := (a3, b3, c3, d3)))
  have hv : soV (a1, b1, c1, d1) (a2, b2, c2, d2) (a3, b3, c3, d3) = .tuple #[.agg #[.int .i64 (soT (a1, b1, c1, d1) (a2, b2, c2, d2) (a3, b3, c3, d3)).1, .int .i64 (soT (a1, b1, c1, d1) (a2, b2, c2, d2) (a3, b3, c3, d3)).2.1, .int .i64 (soT (a1, b1, c1, d1) (a2, b2, c2, d2) (a3, b3, c3, d3)).2.2.1, .int .i64 (soT (a1, b1, c1, d1) (a2, b2, c2, d2) (a3, b3, c3, d3)).2.2.2], .bool (soB (a1, b1, c1, d1) (a2, b2, c2, d2) (a3, b3, c3, d3))] := rfl
  rw [hv] at HS
  obtain ⟨⟨th, tv, tm, td⟩, ht⟩ : ∃ t, soT (a1, b1, c1, d1) (a2, b2, c2, d2) (a3, b3, c3, d3) = t := ⟨_, rfl⟩
  obtain ⟨o, ho⟩ : ∃ o, soB (a1, b1, c1, d1) (a2, b2, c2, d2) (a3, b3, c3, d3) = o := ⟨_, rfl⟩
  rw [ht, ho] at HS HF
  rw [ht] at HC HD HY
  rw [ho] at HA HY
  dsimp only at HS HF
  obtain ⟨l2, hl2⟩ : ∃ l2, coAdd rs l (a1, b1, c1, d1) (a2, b2, c2, d2) (a3, b3, c3, d3) = l2 := ⟨_, rfl⟩
  rw [hl2] at HA HC HD HY ⊢
  clear hl hr hal hv ht ho hl2 hok
  go_enter Try.func54, Try.ntmps54
  go_wp2_with fail
  refine (HS.out _).mono ?_
  rintro e w1 ⟨rfl, hb1⟩
  have hal1 := cd_al w1 (.cells #[.int .i64 th, .int .i64 tv, .int .i64 tm, .int .i64 td] 29)
  have hb2 := HB0.out.trans (hb1.mono HB0.out.size)
  have HB2 := Lib.hid (hb2.trans (hal1.mono hb2.size))
  have HL2 := Lib.hid ((HL0.out.below hb1).below hal1)
  have HR2 := Lib.hid ((HR0.out.below hb1).below hal1)
  have HTB := Lib.hid (tbox_alloc w1 th tv tm td)
  clear hb1 hal1 hb2 HB0 HL0 HR0
  cases o
  · have HX := Lib.hid (HA.out (by first | rfl | trivial))
    go_wp2_with fail
    go_ret
    exact ⟨_, rfl, by rw [HX.out]; exact (show Ths _ _ _ _ _ _ from HL2.out).2 ▸ HL2.out.1, g_of_below HB2.out _, .inl rfl⟩
  go_wp2_with fail
  refine (implFulfillsAll _ _ _ _ _ _ _ _ _ rs HR2.out).mono ?_
  rintro e w3 ⟨rfl, hb3⟩
  rw [HF.out (by trivial)]
  have HB3 := Lib.hid (HB2.out.trans (hb3.mono HB2.out.size))
  have HL3 := Lib.hid (HL2.out.below hb3)
  have HT3 := Lib.hid (HTB.out.below hb3)
  clear hb3 HB2 HL2 HTB HR2
  cases hf : coH rs (th, tv, tm, td)
  · have HX := Lib.hid (HC.out hf)
    go_wp2_with fail
    go_ret
    exact ⟨_, rfl, by rw [HX.out]; exact HL3.out.2 ▸ HL3.out.1, g_of_below HB3.out _, .inl rfl⟩
  obtain ⟨t0, t1, t2, t3⟩ := id HT3.out
  go_wp2_with fail
  refine (implContains _ _ _ _ _ _ _ _ _ l HL3.out).mono ?_
  rintro e w4 ⟨rfl, hb4⟩
  have HB4 := Lib.hid (HB3.out.trans (hb4.mono HB3.out.size))
  have HL4 := Lib.hid (HL3.out.below hb4)
  have HT4 := Lib.hid (HT3.out.below hb4)
  clear hb4 HB3 HL3 HT3 t0 t1 t2 t3
  cases hm : decide ((th, tv, tm, td) ∈ l)
  · have HX := Lib.hid (HY.out (by first | rfl | trivial) hm hf)
    have hwz := HB4.out.size
    have hBB := HBB.out
    obtain ⟨t0, t1, t2, t3⟩ := id HT4.out
    have HO := Lib.hid (show w4.ownsRow B 29 4 (.slice a n cap) n (flat4 l) from by have := HL4.out.1; unfold ThRow at this; rwa [HLL.out] at this)
    clear hm hf
    go_wp2_with (at_builtin; refine wpList_append_lies _ rfl _ _ _ rfl B 29 i0 _ 4 32 Try.underlying45 hi0 hz0 hz1 hz2 rfl (by omega) (.slice a n cap) n (flat4 l) (by rfl) (World.ownsRow.alloc HO.out _) ⟨w4.heap.size, 0, none⟩ 1 1 [.int .i64 th, .int .i64 tv, .int .i64 tm, .int .i64 td] (by rfl) (by rfl) (World.news_of_block (cs := #[.int .i64 th, .int .i64 tv, .int .i64 tm, .int .i64 td]) (t := 29) (fr := (0, 0)) (heap_alloc_new w4 _)) (by simp [Value.oneCell']) (by omega) (by unfold maxLen; omega) (by omega) (by simp; omega) (w4.heap.size + 1) (by simp) ?_; intro gg cp w5 hown5 hgrow5 hat5 hgl5; have HO5 := Lib.hid hown5; have HG5 := Lib.hid hgrow5; have HT5 := Lib.hid hat5; clear hown5 hgrow5 hat5)
    go_ret
    refine ⟨_, rfl, ?_, ?_, ?_⟩
    · unfold ThRow
      rw [HX.out, flat4_one, List.length_append, HLL.out]
      exact HO5.out
    · exact g_trans (g_of_below (cal HB4.out _) _) HG5.out
    · rcases HT5.out with h | h
      · exact .inl h.symm
      · exact .inr ⟨gg, rfl, by omega⟩
  · have HX := Lib.hid (HD.out hm)
    clear hm hf
    go_wp2_with fail
    go_ret
    exact ⟨_, rfl, by rw [HX.out]; exact HL4.out.2 ▸ HL4.out.1, g_of_below HB4.out _, .inl rfl⟩
end Go.Proofs.Ytdaiffaedejnbaa
