/- The conditions of an arch under loads: the program's RowsOf. -/
import Derived.Test.YtiallkkleilgiaaCondI
namespace Go.Proofs.Ytiallkkleilgiaa
set_option maxRecDepth 100000
open Go.ChangeShapes Go.WideShapes Go.ChangeAt Go.RowKit

set_option maxHeartbeats 4000000 in
theorem implRowsOf (w : World) (B B2 g cap n : Nat) (la : Option Addr) (m lc : Nat) (js : List Jt) (ls : List Ld) (hr : JRowAt w B g cap js) (hn : js.length = n) (hl : Lds w B2 la m lc ls) :
    Calls Try.prog 19 #[.agg #[.slice (some ⟨g, 0, none⟩) n cap], .slice la m lc] w (RwAns js ls w) := by
  have hal := cd_al w (.cells #[.slice (some ⟨g, 0, none⟩) n cap] 44)
  have HR := Lib.hid (JRowAt.below hr hal)
  have HL := Lib.hid (hl.below hal)
  have HB0 := Lib.hid hal
  have HN := Lib.hid hn
  clear hr hn hl hal
  cases h : loadsV js ls
  · have H := Lib.hid h
    have HV := Lib.hid (rowsV_l h)
    clear h
    go_enter Try.func19, Try.ntmps19
    go_wp2_with fail
    refine (loadNo _ _ _ _ _ _ _ _ _ js ls HR.out HN.out HL.out H.out).mono ?_
    rintro e w1 ⟨rfl, hb1⟩
    have HB1 := Lib.hid (HB0.out.trans (hb1.mono HB0.out.size))
    clear hb1
    go_wp2_with fail
    go_ret
    refine ⟨.slice none 0 0, rfl, by rw [HV.out]; exact CdRow.nil _ _, cal HB1.out _⟩
  · have H := Lib.hid h
    clear h
    go_enter Try.func19, Try.ntmps19
    go_wp2_with fail
    refine (loadYes _ _ _ _ _ _ _ _ _ js ls HR.out HN.out HL.out H.out).mono ?_
    rintro e w1 ⟨sg, sc, rfl, hbu, hb1⟩
    have hal1 := cd_al w1 (.cells #[.slice (some ⟨g, 0, none⟩) n cap, .slice (some ⟨sg, 0, none⟩) (n - 1) sc, .slice la m lc] 83)
    have HB1 := Lib.hid (HB0.out.trans (hb1.mono HB0.out.size))
    have HB2 := Lib.hid (HB1.out.trans (hal1.mono HB1.out.size))
    have HBU := Lib.hid (hbu.below hal1)
    have HR2 := Lib.hid (JRowAt.below (JRowAt.below HR.out hb1) hal1)
    have HL2 := Lib.hid ((HL.out.below hb1).below hal1)
    clear hb1 hbu hal1 HB1
    go_wp2_with fail
    refine (archRows _ _ _ _ _ _ _ _ _ _ _ _ js ls HBU.out HR2.out HL2.out H.out HN.out).mono ?_
    rintro e w2 ⟨gg, cc, rfl, hrow, hb2⟩
    have HB3 := Lib.hid (HB2.out.trans (hb2.mono HB2.out.size))
    have HRW := Lib.hid (hrow.base HB2.out.size)
    clear hb2 hrow
    go_wp2_with fail
    refine (areValidRows _ _ _ _ _ (cdsV js ls) ⟨HRW.out, by rw [cdsV_length, HN.out]⟩).mono ?_
    rintro e w3 ⟨rfl, hb3⟩
    have HB4 := Lib.hid (HB3.out.trans (hb3.mono HB3.out.size))
    have HRW3 := Lib.hid (HRW.out.below hb3)
    clear hb3
    cases hc : cdsOk (cdsV js ls)
    · have HV := Lib.hid (rowsV_c hc)
      clear hc
      go_wp2_with fail
      go_ret
      refine ⟨.slice none 0 0, rfl, by rw [HV.out]; exact CdRow.nil _ _, HB4.out⟩
    · have HV := Lib.hid (rowsV_yes H.out hc)
      clear hc
      go_wp2_with fail
      go_ret
      refine ⟨.slice (some ⟨gg, 0, none⟩) (2 * n + 1) cc, rfl, by rw [HV.out]; exact HRW3.out, HB4.out⟩
end Go.Proofs.Ytiallkkleilgiaa
