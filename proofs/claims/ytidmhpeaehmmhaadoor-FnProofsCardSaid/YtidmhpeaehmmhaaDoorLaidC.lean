/- From what the listed variables hold to the fact that the contracts ask: the library's table of the powers of ten. -/
import Derived.Test.YtidmhpeaehmmhaaDoorFormatC
import Derived.Lib.LaidTab
import Derived.LaidMore
import Derived.Stop.LaidErr
import Derived.MakeChecks
namespace Go.Proofs.YtidmhpeaehmmhaaDoor
set_option maxRecDepth 100000
open Go.ChangeShapes Go.WideShapes Go.ChangeAt Go.RowKit

theorem gTens : Tryd.prog.globalNamed "internal/strconv.uint64pow10" = some 1 := by kernel_rfl

theorem tens_of_laid {W : World} {rest : List (String × DataW Unit)} (hr : (rest.all fun x => x.2.handleName?.isNone) = true)
    (h : laidMetH Tryd.prog (("math/bits.deBruijn32tab", Rows.laid_math_bits_deBruijn32tab) :: ("math/bits.deBruijn64tab", Rows.laid_math_bits_deBruijn64tab) :: ("internal/strconv.uint64pow10", Rows.laid_internal_strconv_uint64pow10) :: rest) W) : Tens W := by
  rw [MakeChecks.laidMetH_plain _ _ _ (by simp only [List.all_cons, hr, Bool.and_true]; kernel_rfl)] at h
  have h3 := h.tail.tail
  exact Lib.tabIs_of_head (n := 20) gTens (by kernel_rfl) Tryd.underlying98 Tryd.underlying91 (by kernel_rfl) (by kernel_rfl) h3
end Go.Proofs.YtidmhpeaehmmhaaDoor
