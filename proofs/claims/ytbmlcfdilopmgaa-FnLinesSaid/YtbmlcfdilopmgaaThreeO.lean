/- Which rows are just met: the contracts of JustMetBy of the program and of the model. -/
import Derived.Test.YtbmlcfdilopmgaaGThree
import Derived.Test.YtbmlcfdilopmgaaThreeS
import Derived.Test.YtbmlcfdilopmgaaGCorner
import Derived.Test.YtbmlcfdilopmgaaGFour
namespace Go.Proofs.Ytbmlcfdilopmgaa
set_option maxRecDepth 100000
open Go.ChangeShapes Go.WideShapes Go.ChangeAt Go.RowKit

/-- What JustMetBy answers. -/
def jmV (t : Cd) (rs : List Cd) : List Int := jmTo t rs rs.length
theorem below_grown' {w x y : World} {B : Nat} {row : Option Nat} (h : Below B w x) (hg : x.grownBy y row) (hB : B ≤ x.heap.size) (hr : ∀ j, row = some j → B ≤ j) : Below B w y := h.grown hg hB (fun j hj => hr j hj)
theorem jmTo_t {t : Cd} {rs : List Cd} (h : okTh t = false) (k : Nat) : jmTo t rs k = [] := by
  induction k with
  | zero => rfl
  | succ k ih => rw [jmTo_no (jmB_t h)]; exact ih


set_option maxHeartbeats 4000000 in
theorem specJustMetBy (w : World) (B : Nat) (ra : Option Addr) (m rc : Nat) (h v mm d : Int) (rs : List Cd) (hr : Cds w B ra m rc rs) (hm : m ≤ 1048576) :
    Calls Try.prog 33 #[.agg #[.int .i64 h, .int .i64 v, .int .i64 mm, .int .i64 d], .slice ra m rc] w fun e w' => ∃ x, e = .returned x ∧ InRow w' w.heap.size x (jmV (h, v, mm, d) rs) ∧ Below w.heap.size w w' := by
  obtain ⟨i0, hi0, hz0, hz1, hz2⟩ := info_parts Try.infoI
  obtain ⟨hnc, hcm⟩ := hr.cap
  unfold maxLen at hcm
  have HN := Lib.hid hr.2
  have hal := cd_al w (.cells #[.int .i64 h, .int .i64 v, .int .i64 mm, .int .i64 d] 31)
  have HB0 := Lib.hid (hal.alloc hal.size (.cells #[] 3))
  have HT0 := Lib.hid ((tbox_alloc w h v mm d).below (cd_al _ (.cells #[] 3)))
  have HI0 := Lib.hid (in_empty (w.alloc (.cells #[.int .i64 h, .int .i64 v, .int .i64 mm, .int .i64 d] 31)) (w.heap.size + 1) (by simp))
  simp only [World.size_alloc] at HI0
  have HR := Lib.hid hr
  clear hr hal
  have HV := Lib.hid (show jmV (h, v, mm, d) rs = jmTo (h, v, mm, d) rs m by unfold jmV; rw [HN.out])
  have HF := Lib.hid (fun a b c e w => specIsJustMet h v mm d a b c e w)
  have HLE := Lib.hid (fun k => jmTo_le (h, v, mm, d) rs k)
  obtain ⟨T, hT⟩ : ∃ T, (h, v, mm, d) = T := ⟨_, rfl⟩
  rw [hT] at HV HLE HF ⊢
  clear hT
  go_enter Try.func33, Try.ntmps33
  go_wp2_with fail
  go_loopw [5, 6] (fun q t wr => ∃ (k : Nat) (a : Option Addr) (n cap : Nat), k ≤ m ∧ t = .int .i64 k ∧ q = .slice a n cap ∧ Ins wr (w.heap.size + 1) a n cap (jmTo T rs k) ∧ Below w.heap.size w wr ∧ TBox wr w.heap.size h v mm d)
    (fun _ t _ => m - (intOf t).toNat)
  case atStart => exact ⟨0, some ⟨w.heap.size + 1, 0, none⟩, 0, 0, Nat.zero_le _, rfl, rfl, HI0.out, HB0.out, HT0.out⟩
  case round =>
    clear HB0 HT0 HI0
    obtain ⟨k, a, n, cap, hk, rfl, rfl, hin, hbw, htb⟩ := hrel
    have HB := Lib.hid hbw
    have HT := Lib.hid htb
    have HI := Lib.hid hin
    by_cases hlt : k < m
    · obtain ⟨g, rfl, -, a0, a1, a2, a3⟩ := (HR.out.below hbw).at k hlt
      have HY := Lib.hid (jmTo_yes (t := T) (rs := rs) (k := k))
      have HX := Lib.hid (jmTo_no (t := T) (rs := rs) (k := k))
      obtain ⟨⟨x, y, z, u⟩, hq⟩ : ∃ q, cd rs k = q := ⟨_, rfl⟩
      rw [hq] at a0 a1 a2 a3 HY HX
      dsimp only at a0 a1 a2 a3
      have HFX := Lib.hid (fun w => HF.out x y z u w)
      obtain ⟨t0, t1, t2, t3⟩ := htb
      have hn1 := Since.nonempty wr
      have sa0 := fun (x : Since wr) => (x.cell g (k * 4) (cell_block_lt a0)).trans a0
      have sa1 := fun (x : Since wr) => (x.cell g (k * 4 + 1) (cell_block_lt a1)).trans a1
      have sa2 := fun (x : Since wr) => (x.cell g (k * 4 + 2) (cell_block_lt a2)).trans a2
      have sa3 := fun (x : Since wr) => (x.cell g (k * 4 + 3) (cell_block_lt a3)).trans a3
      have st0 := fun (x : Since wr) => (x.cell w.heap.size 0 (cell_block_lt t0)).trans t0
      have st1 := fun (x : Since wr) => (x.cell w.heap.size 1 (cell_block_lt t1)).trans t1
      have st2 := fun (x : Since wr) => (x.cell w.heap.size 2 (cell_block_lt t2)).trans t2
      have st3 := fun (x : Since wr) => (x.cell w.heap.size 3 (cell_block_lt t3)).trans t3
      clear hbw hin hq
      cases hj : jmB T (x, y, z, u)
      · have HNX := Lib.hid (HX.out hj)
        rw [hj] at HFX
        clear hj
        go_wp2_with fail
        refine wp_region_since (by kernel_rfl) (by kernel_rfl) ?_
        repeat (go_big_quiet_step (first
          | (go_at_call 58; exact Since.call (HFX.out _))))
        refine wpQuiet_nil ?_
        rintro w2 ⟨⟨w2, hb2⟩, rfl⟩
        have HB3 := Lib.hid (HB.out.trans (hb2.mono HB.out.size))
        have HT3 := Lib.hid (HT.out.below hb2)
        have HI3 := Lib.hid (HI.out.below hb2)
        clear hb2 sa0 sa1 sa2 sa3 st0 st1 st2 st3 t0 t1 t2 t3 a0 a1 a2 a3 hn1
        go_wp2_with fail
        go_roundw
        case rel => exact ⟨k + 1, a, n, cap, hlt, by go_num, rfl, by rw [HNX.out]; exact HI3.out, HB3.out, HT3.out⟩
        case measure => simp [intOf]; omega
      · have HNX := Lib.hid (HY.out hj)
        rw [hj] at HFX
        clear hj
        go_wp2_with fail
        refine wp_region_since (by kernel_rfl) (by kernel_rfl) ?_
        repeat (go_big_quiet_step (first
          | (go_at_call 58; exact Since.call (HFX.out _))))
        refine wpQuiet_nil ?_
        rintro w2 ⟨⟨w2, hb2⟩, rfl⟩
        have HB3 := Lib.hid (HB.out.trans (hb2.mono HB.out.size))
        have HT3 := Lib.hid (HT.out.below hb2)
        have HI3 := Lib.hid (HI.out.below hb2)
        clear hb2 sa0 sa1 sa2 sa3 st0 st1 st2 st3 t0 t1 t2 t3 a0 a1 a2 a3 hn1
        have hwz := HB3.out.size
        have hin3 := HI3.out.2
        have hle := HLE.out k
        obtain ⟨hcc, hcm2⟩ := HI3.out.cap
        unfold maxLen at hcm2
        have hw2 : w.heap.size + 1 ≤ w2.heap.size := cell_block_lt HT3.out.1
        have HO := Lib.hid (show w2.ownsRow (w.heap.size + 1) 3 1 (.slice a n cap) n (ints (jmTo T rs k)) from by have := HI3.out.1; unfold InRow at this; rwa [hin3] at this)
        have HLN := Lib.hid hin3
        have hnk : n ≤ k := by omega
        clear hin3 hle
        go_wp2_with (at_builtin; refine wpList_append_lies _ rfl _ _ _ rfl (w.heap.size + 1) 3 i0 _ 1 8 Try.underlying38 hi0 hz0 hz1 hz2 rfl (by omega) (.slice a n cap) n (ints (jmTo T rs k)) (by rfl) (World.ownsRow.alloc HO.out _) ⟨w2.heap.size, 0, none⟩ 1 1 [.int .i64 (k : Int)] (by rfl) (by rfl) (World.news_of_block (cs := #[.int .i64 (k : Int)]) (t := 3) (fr := (0, 0)) (heap_alloc_new w2 _)) (by simp [Value.oneCell']) (by omega) (by unfold maxLen; omega) (by omega) (by first | omega | (simp; omega)) (w2.heap.size + 1) (by simp) ?_; intro gg cp w9 hown9 hgrow9 hat9 hgl9; have HO9 := Lib.hid hown9; have HG9 := Lib.hid hgrow9; clear hown9 hgrow9 hat9 hgl9)
        have hoy := World.ownsRow.alloc HO.out (.cells #[.int .i64 (k : Int)] 3)
        have HB9 : RowKit.Hid (Below w.heap.size w w9) := Lib.hid (below_grown' (HB3.out.alloc HB3.out.size _) HG9.out (by simp; omega) (fun j hj => by have := (World.ownsRow.lt hoy j hj).1; omega))
        have HT9 : RowKit.Hid (TBox w9 w.heap.size h v mm d) := Lib.hid ⟨far_low hoy HG9.out (Nat.lt_succ_self _) (cell_kept HT3.out.1 (cd_al w2 _)), far_low hoy HG9.out (Nat.lt_succ_self _) (cell_kept HT3.out.2.1 (cd_al w2 _)), far_low hoy HG9.out (Nat.lt_succ_self _) (cell_kept HT3.out.2.2.1 (cd_al w2 _)), far_low hoy HG9.out (Nat.lt_succ_self _) (cell_kept HT3.out.2.2.2 (cd_al w2 _))⟩
        have HI9 : RowKit.Hid (Ins w9 (w.heap.size + 1) (some ⟨gg, 0, none⟩) (n + 1) cp (jmTo T rs (k + 1))) := Lib.hid (by
          rw [HNX.out]
          refine ⟨?_, by rw [List.length_append, HLN.out]; rfl⟩
          unfold InRow
          rw [ints_append, List.length_append, HLN.out]
          exact HO9.out)
        clear hoy
        go_roundw
        case rel => exact ⟨k + 1, _, _, _, hlt, by go_num, rfl, HI9.out, HB9.out, HT9.out⟩
        case measure => simp [intOf]; omega
    · have hkm : k = m := by omega
      have HE := Lib.hid (show jmV T rs = jmTo T rs k by rw [HV.out, hkm])
      have hnl : ¬ (k < m) := hlt
      clear hbw htb hin hkm
      go_wp2_with fail
      go_ret
      exact ⟨_, rfl, by rw [HE.out]; exact InRow.base (HI.out.2 ▸ HI.out.1) (Nat.le_succ _), HB.out⟩
end Go.Proofs.Ytbmlcfdilopmgaa
