/- The condition on the five listed tables of the statement LabelsParse (the fifth is one of Go's own, held against the form's constant). -/
import Derived.Test.YtcojjhokcebogaaDoorUnLaid
import Derived.Lay
namespace Go.Proofs.YtcojjhokcebogaaDoor
open Go.ChangeShapes Go.WideShapes Go.ChangeAt Go.WideMaps Go.WideElems Go.RowKit

def laidFive : List (String × DataW Unit) := [("math/bits.deBruijn32tab", Rows.laid_math_bits_deBruijn32tab), ("math/bits.deBruijn64tab", Rows.laid_math_bits_deBruijn64tab), ("internal/strconv.uint64pow10", Rows.laid_internal_strconv_uint64pow10), ("unicode/utf8.acceptRanges", Rows.laid_unicode_utf8_acceptRanges), ("unicode/utf8.first", Rows.laid_unicode_utf8_first)]
theorem pow_of_five {W : World} (h : laidMetH Tryd.prog laidFive W) : PowOk W := by
  rw [MakeChecks.laidMetH_plain _ _ _ (by kernel_rfl)] at h
  obtain ⟨ps, h1, _, _⟩ := h
  exact pow_of_list h1 (by simp [laidFive])
end Go.Proofs.YtcojjhokcebogaaDoor
