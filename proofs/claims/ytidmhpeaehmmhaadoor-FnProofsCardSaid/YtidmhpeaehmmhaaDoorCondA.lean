/- Lists of conditions: FulfillsAll and CountBroken of the program and of the model; whether all are valid. -/
import Derived.Test.YtidmhpeaehmmhaaDoorCondC
import Derived.Test.YtidmhpeaehmmhaaDoorCdL
namespace Go.Proofs.YtidmhpeaehmmhaaDoor
set_option maxRecDepth 100000
open Go.ChangeShapes Go.WideShapes Go.ChangeAt Go.RowKit

/-- A thrust in its box. -/
def TBox (W : World) (H : Nat) (h v m d : Int) : Prop :=
  W.cell? ⟨H, 0, none⟩ = some (.int .i64 h) ∧ W.cell? ⟨H, 1, none⟩ = some (.int .i64 v) ∧ W.cell? ⟨H, 2, none⟩ = some (.int .i64 m) ∧ W.cell? ⟨H, 3, none⟩ = some (.int .i64 d)
theorem TBox.below {w w' : World} {H : Nat} {h v m d : Int} (x : TBox w H h v m d) (hb : Below w.heap.size w w') : TBox w' H h v m d :=
  ⟨tcell x.1 hb, tcell x.2.1 hb, tcell x.2.2.1 hb, tcell x.2.2.2 hb⟩
theorem tbox_alloc (w : World) (h v m d : Int) : TBox (w.alloc (.cells #[.int .i64 h, .int .i64 v, .int .i64 m, .int .i64 d] 31)) w.heap.size h v m d := by
  refine ⟨?_, ?_, ?_, ?_⟩ <;> go_simp
theorem cd_al (w : World) (o : Obj) : Below w.heap.size w (w.alloc o) := (Below.refl w.heap.size w).alloc (Nat.le_refl _) o
def cdOkAt (rs : List Cd) (i : Nat) : Bool := cdOk (cd rs i).1 (cd rs i).2.1 (cd rs i).2.2.1 (cd rs i).2.2.2
def cdsOk (rs : List Cd) : Bool := allV rs.length (cdOkAt rs)

/-- Conditions in the cells of a slice, whoever made its block. -/
structure CdCells (w : World) (a : Option Addr) (n cap : Nat) (rs : List Cd) : Prop where
  cap : n ≤ cap ∧ cap ≤ maxLen
  len : rs.length = n
  each : ∀ i, i < n → ∃ g, a = some ⟨g, 0, Option.none⟩ ∧ True ∧ w.cell? ⟨g, i * 4, Option.none⟩ = some (.int .i64 (cd rs i).1) ∧ w.cell? ⟨g, i * 4 + 1, Option.none⟩ = some (.int .i64 (cd rs i).2.1) ∧ w.cell? ⟨g, i * 4 + 2, Option.none⟩ = some (.int .i64 (cd rs i).2.2.1) ∧ w.cell? ⟨g, i * 4 + 3, Option.none⟩ = some (.int .i64 (cd rs i).2.2.2)
theorem CdCells.below {w w' : World} {n cap : Nat} {a : Option Addr} {rs : List Cd} (h : CdCells w a n cap rs) (hb : Below w.heap.size w w') : CdCells w' a n cap rs :=
  ⟨h.cap, h.len, fun i hi => by obtain ⟨g, e, t, h0, h1, h2, h3⟩ := h.each i hi; exact ⟨g, e, t, tcell h0 hb, tcell h1 hb, tcell h2 hb, tcell h3 hb⟩⟩
theorem Cds.cells {w : World} {B n cap : Nat} {a : Option Addr} {rs : List Cd} (h : Cds w B a n cap rs) : CdCells w a n cap rs :=
  ⟨h.cap, h.2, fun i hi => by obtain ⟨g, e, -, h0, h1, h2, h3⟩ := h.at i hi; exact ⟨g, e, trivial, h0, h1, h2, h3⟩⟩


set_option maxHeartbeats 2000000 in
theorem areValidCells (w : World) (a : Option Addr) (n cap : Nat) (rs : List Cd) (hr : CdCells w a n cap rs) :
    Calls Tryd.prog 30 #[.slice a n cap] w fun e w' => e = .returned (.bool (cdsOk rs)) ∧ Below w.heap.size w w' := by
  obtain ⟨hnc, hcm⟩ := hr.cap
  unfold maxLen at hcm
  have HV := Lib.hid (show cdsOk rs = allFrom n 0 (cdOkAt rs) by unfold cdsOk; rw [hr.len]; rfl)
  have HR := Lib.hid hr
  clear hr
  go_enter Tryd.func30, Tryd.ntmps30
  go_wp2_with fail
  go_loopw [7] (fun t wr => ∃ k : Nat, k ≤ n ∧ t = .int .i64 k ∧ allFrom n k (cdOkAt rs) = allFrom n 0 (cdOkAt rs) ∧ Below w.heap.size w wr)
    (fun t _ => n - (intOf t).toNat)
  case atStart => exact ⟨0, Nat.zero_le _, rfl, rfl, Below.refl _ _⟩
  case round =>
    obtain ⟨k, hk, rfl, hall, hbw⟩ := hrel
    have HB := Lib.hid hbw
    have HA := Lib.hid hall
    clear hall
    by_cases hlt : k < n
    · obtain ⟨g, rfl, -, a0, a1, a2, a3⟩ := (HR.out.below hbw).each k hlt
      have HP := Lib.hid (show cdOkAt rs k = cdOk (cd rs k).1 (cd rs k).2.1 (cd rs k).2.2.1 (cd rs k).2.2.2 from rfl)
      generalize (cd rs k).1 = x at *
      generalize (cd rs k).2.1 = y at *
      generalize (cd rs k).2.2.1 = z at *
      generalize (cd rs k).2.2.2 = u at *
      have hal := cd_al wr (.cells #[.int .i64 x, .int .i64 y, .int .i64 z, .int .i64 u] 41)
      have HB2 := Lib.hid (hbw.trans (hal.mono hbw.size))
      clear hbw hal
      cases hf : cdOk x y z u
      · have HX := Lib.hid (show cdsOk rs = false by rw [HV.out, ← HA.out]; exact allFrom_no hlt (HP.out.trans hf))
        go_wp2_with fail
        refine (rowValid _ _ _ _ _).mono ?_
        rintro e w2 ⟨rfl, hb2⟩
        rw [hf]
        go_wp2_with fail
        go_ret
        exact ⟨ret_bool HX.out.symm, HB2.out.trans (hb2.mono HB2.out.size)⟩
      · have HX := Lib.hid (show allFrom n (k + 1) (cdOkAt rs) = allFrom n 0 (cdOkAt rs) by rw [← HA.out]; exact allFrom_yes hlt (HP.out.trans hf))
        go_wp2_with fail
        refine (rowValid _ _ _ _ _).mono ?_
        rintro e w2 ⟨rfl, hb2⟩
        rw [hf]
        have HB3 := Lib.hid (HB2.out.trans (hb2.mono HB2.out.size))
        clear hb2
        go_wp2_with fail
        go_roundw
        case rel => exact ⟨k + 1, by omega, by go_num, HX.out, HB3.out⟩
        case measure => simp [intOf]; omega
    · obtain rfl : k = n := by omega
      clear hbw
      go_wp2_with fail
      go_ret
      exact ⟨ret_bool (by rw [HV.out, ← HA.out, allFrom_end]), HB.out⟩
theorem areValidRows (w : World) (B : Nat) (a : Option Addr) (n cap : Nat) (rs : List Cd) (hr : Cds w B a n cap rs) :
    Calls Tryd.prog 30 #[.slice a n cap] w fun e w' => e = .returned (.bool (cdsOk rs)) ∧ Below w.heap.size w w' := areValidCells w a n cap rs hr.cells

set_option maxHeartbeats 4000000 in
theorem specCountBroken (w : World) (B : Nat) (a : Option Addr) (n cap : Nat) (h v m d : Int) (rs : List Cd) (hr : Cds w B a n cap rs) :
    Calls Tryd.prog 11 #[.agg #[.int .i64 h, .int .i64 v, .int .i64 m, .int .i64 d], .slice a n cap] w fun e w' => e = .returned (.int .i64 (brkV h v m d rs)) ∧ Below w.heap.size w w' := by
  obtain ⟨hnc, hcm⟩ := hr.cap
  unfold maxLen at hcm
  have hln := hr.2
  have HB0 := Lib.hid (cd_al w (.cells #[.int .i64 h, .int .i64 v, .int .i64 m, .int .i64 d] 31))
  have HT0 := Lib.hid (tbox_alloc w h v m d)
  have HR := Lib.hid hr
  clear hr
  cases ht : okT h v m d
  · have HV := Lib.hid (brkV_no (rs := rs) ht)
    clear hln
    go_enter Tryd.func11, Tryd.ntmps11
    go_wp2_with fail
    refine (specThrustOk _ _ _ _ _).mono ?_
    rintro e w1 ⟨rfl, hb1⟩
    rw [ht]
    go_wp2_with fail
    go_ret
    exact ⟨ret_i64 HV.out.symm, HB0.out.trans (hb1.mono HB0.out.size)⟩
  · have HV := Lib.hid (show brkV h v m d rs = ((brkTo h v m d rs n : Nat) : Int) by rw [brkV_yes ht, hln])
    have HF := Lib.hid (fun a b c e w (hok : cdOk a b c e = true) => specHolds h v m d a b c e w (cd_bd ht hok))
    clear hln
    go_enter Tryd.func11, Tryd.ntmps11
    go_wp2_with fail
    refine (specThrustOk _ _ _ _ _).mono ?_
    rintro e w1 ⟨rfl, hb1⟩
    rw [ht]
    have HB1 := Lib.hid (HB0.out.trans (hb1.mono HB0.out.size))
    have HT1 := Lib.hid (HT0.out.below hb1)
    clear hb1 HB0 HT0
    go_wp2_with fail
    go_loopw [5, 6] (fun q t wr => ∃ k : Nat, k ≤ n ∧ t = .int .i64 k ∧ q = .int .i64 ((brkTo h v m d rs k : Nat) : Int) ∧ Below w.heap.size w wr ∧ TBox wr w.heap.size h v m d)
      (fun _ t _ => n - (intOf t).toNat)
    case atStart => exact ⟨0, Nat.zero_le _, rfl, rfl, HB1.out, HT1.out⟩
    case round =>
      clear HB1 HT1
      obtain ⟨k, hk, rfl, rfl, hbw, htb⟩ := hrel
      have HB := Lib.hid hbw
      have HT := Lib.hid htb
      have hle := brkTo_le h v m d rs k
      by_cases hlt : k < n
      · obtain ⟨g, rfl, -, a0, a1, a2, a3⟩ := (HR.out.below hbw).at k hlt
        have HY := Lib.hid (brkTo_yes (h := h) (v := v) (m := m) (d := d) (rs := rs) (k := k))
        have HN := Lib.hid (brkTo_no (h := h) (v := v) (m := m) (d := d) (rs := rs) (k := k))
        have HP := Lib.hid (show brkAt h v m d rs k = (cdOk (cd rs k).1 (cd rs k).2.1 (cd rs k).2.2.1 (cd rs k).2.2.2 && !cdH h v m d (cd rs k).1 (cd rs k).2.1 (cd rs k).2.2.1 (cd rs k).2.2.2) from rfl)
        generalize (cd rs k).1 = x at *
        generalize (cd rs k).2.1 = y at *
        generalize (cd rs k).2.2.1 = z at *
        generalize (cd rs k).2.2.2 = u at *
        generalize brkTo h v m d rs k = b at *
        obtain ⟨t0, t1, t2, t3⟩ := htb
        have hn1 := Since.nonempty wr
        have sa0 := fun (x : Since wr) => (x.cell g (k * 4) (cell_block_lt a0)).trans a0
        have sa1 := fun (x : Since wr) => (x.cell g (k * 4 + 1) (cell_block_lt a1)).trans a1
        have sa2 := fun (x : Since wr) => (x.cell g (k * 4 + 2) (cell_block_lt a2)).trans a2
        have sa3 := fun (x : Since wr) => (x.cell g (k * 4 + 3) (cell_block_lt a3)).trans a3
        have st0 := fun (x : Since wr) => (x.cell w.heap.size 0 (cell_block_lt t0)).trans t0
        have st1 := fun (x : Since wr) => (x.cell w.heap.size 1 (cell_block_lt t1)).trans t1
        have st2 := fun (x : Since wr) => (x.cell w.heap.size 2 (cell_block_lt t2)).trans t2
        have st3 := fun (x : Since wr) => (x.cell w.heap.size 3 (cell_block_lt t3)).trans t3
        have HC := Lib.hid (fun w => specRowOk x y z u w)
        clear hbw
        cases hf : cdOk x y z u
        · have HX := Lib.hid (HN.out (by rw [HP.out, hf]; rfl))
          rw [hf] at HC
          go_wp2_with fail
          refine wp_region_since (by kernel_rfl) (by kernel_rfl) ?_
          repeat (go_big_quiet_step (first
            | (go_at_call 21; exact Since.call (HC.out _))))
          refine wpQuiet_nil ?_
          rintro w2 ⟨⟨w2, hb2⟩, rfl⟩
          have HB3 := Lib.hid (HB.out.trans (hb2.mono HB.out.size))
          have HT3 := Lib.hid (HT.out.below hb2)
          clear hb2 sa0 sa1 sa2 sa3 st0 st1 st2 st3
          go_wp2_with fail
          go_roundw
          case rel => exact ⟨k + 1, by omega, by go_num, by rw [HX.out], HB3.out, HT3.out⟩
          case measure => simp [intOf]; omega
        · rw [hf] at HC
          have HFF := Lib.hid (fun w => HF.out x y z u w hf)
          cases hh : cdH h v m d x y z u
          · have HX := Lib.hid (HY.out (by rw [HP.out, hf, hh]; rfl))
            rw [hh] at HFF
            go_wp2_with fail
            refine wp_region_since (by kernel_rfl) (by kernel_rfl) ?_
            repeat (go_big_quiet_step (first
              | (go_at_call 21; exact Since.call (HC.out _))
              | (go_at_call 22; exact Since.call (HFF.out _))))
            refine wpQuiet_nil ?_
            rintro w2 ⟨⟨w2, hb2⟩, rfl⟩
            have HB3 := Lib.hid (HB.out.trans (hb2.mono HB.out.size))
            have HT3 := Lib.hid (HT.out.below hb2)
            clear hb2 sa0 sa1 sa2 sa3 st0 st1 st2 st3
            go_wp2_with fail
            go_roundw
            case rel => exact ⟨k + 1, by omega, by go_num, by rw [HX.out]; first | rfl | (congr 1; omega), HB3.out, HT3.out⟩
            case measure => simp [intOf]; omega
          · have HX := Lib.hid (HN.out (by rw [HP.out, hf, hh]; rfl))
            rw [hh] at HFF
            go_wp2_with fail
            refine wp_region_since (by kernel_rfl) (by kernel_rfl) ?_
            repeat (go_big_quiet_step (first
              | (go_at_call 21; exact Since.call (HC.out _))
              | (go_at_call 22; exact Since.call (HFF.out _))))
            refine wpQuiet_nil ?_
            rintro w2 ⟨⟨w2, hb2⟩, rfl⟩
            have HB3 := Lib.hid (HB.out.trans (hb2.mono HB.out.size))
            have HT3 := Lib.hid (HT.out.below hb2)
            clear hb2 sa0 sa1 sa2 sa3 st0 st1 st2 st3
            go_wp2_with fail
            go_roundw
            case rel => exact ⟨k + 1, by omega, by go_num, by rw [HX.out], HB3.out, HT3.out⟩
            case measure => simp [intOf]; omega
      · obtain rfl : k = n := by omega
        clear hbw htb
        go_wp2_with fail
        go_ret
        exact ⟨ret_i64 HV.out.symm, HB.out⟩
end Go.Proofs.YtidmhpeaehmmhaaDoor
