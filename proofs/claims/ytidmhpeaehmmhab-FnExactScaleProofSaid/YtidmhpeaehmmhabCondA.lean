/- Lists of conditions: FulfillsAll and CountBroken of the program and of the model; whether all are valid. -/
import Derived.Test.YtidmhpeaehmmhabCondC
import Derived.Test.YtidmhpeaehmmhabCdL
namespace Go.Proofs.Ytidmhpeaehmmhab
set_option maxRecDepth 100000
open Go.ChangeShapes Go.WideShapes Go.ChangeAt Go.RowKit

/-- A thrust in its box. -/
def TBox (W : World) (H : Nat) (h v m d : Int) : Prop :=
  W.cell? ⟨H, 0, none⟩ = some (.int .i64 h) ∧ W.cell? ⟨H, 1, none⟩ = some (.int .i64 v) ∧ W.cell? ⟨H, 2, none⟩ = some (.int .i64 m) ∧ W.cell? ⟨H, 3, none⟩ = some (.int .i64 d)
theorem TBox.below {w w' : World} {H : Nat} {h v m d : Int} (x : TBox w H h v m d) (hb : Below w.heap.size w w') : TBox w' H h v m d :=
  ⟨tcell x.1 hb, tcell x.2.1 hb, tcell x.2.2.1 hb, tcell x.2.2.2 hb⟩

theorem cd_al (w : World) (o : Obj) : Below w.heap.size w (w.alloc o) := (Below.refl w.heap.size w).alloc (Nat.le_refl _) o
def cdOkAt (rs : List Cd) (i : Nat) : Bool := cdOk (cd rs i).1 (cd rs i).2.1 (cd rs i).2.2.1 (cd rs i).2.2.2
def cdsOk (rs : List Cd) : Bool := allV rs.length (cdOkAt rs)

/-- Conditions in the cells of a slice, whoever made its block. -/
structure CdCells (w : World) (a : Option Addr) (n cap : Nat) (rs : List Cd) : Prop where
  cap : n ≤ cap ∧ cap ≤ maxLen
  len : rs.length = n
  each : ∀ i, i < n → ∃ g, a = some ⟨g, 0, Option.none⟩ ∧ True ∧ w.cell? ⟨g, i * 4, Option.none⟩ = some (.int .i64 (cd rs i).1) ∧ w.cell? ⟨g, i * 4 + 1, Option.none⟩ = some (.int .i64 (cd rs i).2.1) ∧ w.cell? ⟨g, i * 4 + 2, Option.none⟩ = some (.int .i64 (cd rs i).2.2.1) ∧ w.cell? ⟨g, i * 4 + 3, Option.none⟩ = some (.int .i64 (cd rs i).2.2.2)
theorem CdCells.below {w w' : World} {n cap : Nat} {a : Option Addr} {rs : List Cd} (h : CdCells w a n cap rs) (hb : Below w.heap.size w w') : CdCells w' a n cap rs :=
  ⟨h.cap, h.len, fun i hi => by obtain ⟨g, e, t, h0, h1, h2, h3⟩ := h.each i hi; exact ⟨g, e, t, tcell h0 hb, tcell h1 hb, tcell h2 hb, tcell h3 hb⟩⟩
theorem Cds.cells {w : World} {B n cap : Nat} {a : Option Addr} {rs : List Cd} (h : Cds w B a n cap rs) : CdCells w a n cap rs :=
  ⟨h.cap, h.2, fun i hi => by obtain ⟨g, e, -, h0, h1, h2, h3⟩ := h.at i hi; exact ⟨g, e, trivial, h0, h1, h2, h3⟩⟩


set_option maxHeartbeats 2000000 in
theorem areValidCells (w : World) (a : Option Addr) (n cap : Nat) (rs : List Cd) (hr : CdCells w a n cap rs) :
    Calls Try.prog 36 #[.slice a n cap] w fun e w' => e = .returned (.bool (cdsOk rs)) ∧ Below w.heap.size w w' := by
  obtain ⟨hnc, hcm⟩ := hr.cap
  unfold maxLen at hcm
  have HV := Lib.hid (show cdsOk rs = allFrom n 0 (cdOkAt rs) by unfold cdsOk; rw [hr.len]; rfl)
  have HR := Lib.hid hr
  clear hr
  go_enter Try.func36, Try.ntmps36
  go_wp2_with fail
  go_loopw [7] (fun t wr => ∃ k : Nat, k ≤ n ∧ t = .int .i64 k ∧ allFrom n k (cdOkAt rs) = allFrom n 0 (cdOkAt rs) ∧ Below w.heap.size w wr)
    (fun t _ => n - (intOf t).toNat)
  case atStart => exact ⟨0, Nat.zero_le _, rfl, rfl, Below.refl _ _⟩
  case round =>
    obtain ⟨k, hk, rfl, hall, hbw⟩ := hrel
    have HB := Lib.hid hbw
    have HA := Lib.hid hall
    clear hall
    by_cases hlt : k < n
    · obtain ⟨g, rfl, -, a0, a1, a2, a3⟩ := (HR.out.below hbw).each k hlt
      have HP := Lib.hid (show cdOkAt rs k = cdOk (cd rs k).1 (cd rs k).2.1 (cd rs k).2.2.1 (cd rs k).2.2.2 from rfl)
      generalize (cd rs k).1 = x at *
      generalize (cd rs k).2.1 = y at *
      generalize (cd rs k).2.2.1 = z at *
      generalize (cd rs k).2.2.2 = u at *
      have hal := cd_al wr (.cells #[.int .i64 x, .int .i64 y, .int .i64 z, .int .i64 u] 45)
      have HB2 := Lib.hid (hbw.trans (hal.mono hbw.size))
      clear hbw hal
      cases hf : cdOk x y z u
      · have HX := Lib.hid (show cdsOk rs = false by rw [HV.out, ← HA.out]; exact allFrom_no hlt (HP.out.trans hf))
        go_wp2_with fail
        refine (rowValid _ _ _ _ _).mono ?_
        rintro e w2 ⟨rfl, hb2⟩
        rw [hf]
        go_wp2_with fail
        go_ret
        exact ⟨ret_bool HX.out.symm, HB2.out.trans (hb2.mono HB2.out.size)⟩
      · have HX := Lib.hid (show allFrom n (k + 1) (cdOkAt rs) = allFrom n 0 (cdOkAt rs) by rw [← HA.out]; exact allFrom_yes hlt (HP.out.trans hf))
        go_wp2_with fail
        refine (rowValid _ _ _ _ _).mono ?_
        rintro e w2 ⟨rfl, hb2⟩
        rw [hf]
        have HB3 := Lib.hid (HB2.out.trans (hb2.mono HB2.out.size))
        clear hb2
        go_wp2_with fail
        go_roundw
        case rel => exact ⟨k + 1, by omega, by go_num, HX.out, HB3.out⟩
        case measure => simp [intOf]; omega
    · obtain rfl : k = n := by omega
      clear hbw
      go_wp2_with fail
      go_ret
      exact ⟨ret_bool (by rw [HV.out, ← HA.out, allFrom_end]), HB.out⟩
theorem areValidRows (w : World) (B : Nat) (a : Option Addr) (n cap : Nat) (rs : List Cd) (hr : Cds w B a n cap rs) :
    Calls Try.prog 36 #[.slice a n cap] w fun e w' => e = .returned (.bool (cdsOk rs)) ∧ Below w.heap.size w w' := areValidCells w a n cap rs hr.cells

end Go.Proofs.Ytidmhpeaehmmhab
