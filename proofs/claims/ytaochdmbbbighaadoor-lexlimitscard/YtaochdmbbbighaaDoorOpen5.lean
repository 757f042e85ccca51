/-
  The tables that the rows of five list; a world in which they stand.
-/
import Derived.Test.YtaochdmbbbighaaDoorOpen
namespace Go.Proofs.YtaochdmbbbighaaDoor
open Go.RowKit

def b32L : List Int := [0, 1, 28, 2, 29, 14, 24, 3, 30, 22, 20, 15, 25, 17, 4, 8, 31, 27, 13, 23, 21, 19, 16, 7, 26, 12, 18, 6, 11, 5, 10, 9]
def b64L : List Int := [0, 1, 56, 2, 57, 49, 28, 3, 61, 58, 42, 50, 38, 29, 17, 4, 62, 47, 59, 36, 45, 43, 51, 22, 53, 39, 33, 30, 24, 18, 12, 5, 63, 55, 48, 27, 60, 41, 37, 16, 46, 35, 44, 21, 52, 32, 23, 11, 54, 26, 40, 15, 34, 20, 31, 10, 25, 14, 19, 9, 13, 8, 7, 6]
def p10L : List Int := [1, 10, 100, 1000, 10000, 100000, 1000000, 10000000, 100000000, 1000000000, 10000000000, 100000000000, 1000000000000, 10000000000000, 100000000000000, 1000000000000000, 10000000000000000, 100000000000000000, 1000000000000000000, 10000000000000000000]
theorem tabs_of5 {W : World} (h : laidMet Tryd.prog [("math/bits.deBruijn32tab", Rows.laid_math_bits_deBruijn32tab), ("math/bits.deBruijn64tab", Rows.laid_math_bits_deBruijn64tab), ("internal/strconv.uint64pow10", Rows.laid_internal_strconv_uint64pow10), ("kiln/lex.marks", Rows.laid_kiln_lex_marks), ("kiln/lex.words", Rows.laid_kiln_lex_words)] W) : Tabs W := tabs_of h.tail.tail.tail
theorem gPow5 : Tryd.prog.globalNamed "internal/strconv.uint64pow10" = some 0 := by kernel_rfl
theorem tPow5 : (Tryd.prog.globals[0]?).map (·.type) = some 67 := by kernel_rfl
theorem c67 : Tryd.prog.cellsOf 67 = 20 := by kernel_rfl
theorem c36 : Tryd.prog.cellsOf 36 = 1 := by kernel_rfl
theorem pow_of5 {W : World} (h : laidMet Tryd.prog [("math/bits.deBruijn32tab", Rows.laid_math_bits_deBruijn32tab), ("math/bits.deBruijn64tab", Rows.laid_math_bits_deBruijn64tab), ("internal/strconv.uint64pow10", Rows.laid_internal_strconv_uint64pow10), ("kiln/lex.marks", Rows.laid_kiln_lex_marks), ("kiln/lex.words", Rows.laid_kiln_lex_words)] W) : Lib.TabIs Tryd.prog W "internal/strconv.uint64pow10" .u64 p10L :=
  Lib.tabIs_of_head gPow5 tPow5 Tryd.underlying67 Tryd.underlying36 c36 c67 h.tail.tail
noncomputable def laidWorld5 (os : Os) : World := putTab (putTab (putTab (laidWorld os) 3 (b32L.map (Value.int .u8)).toArray) 4 (b64L.map (Value.int .u8)).toArray) 0 (p10L.map (Value.int .u64)).toArray
end Go.Proofs.YtaochdmbbbighaaDoor
