/-
  NARROWER THAN 'FOR EVERY INPUT', by the rows' own cells (each row's printed sentence says how): LexAny: laid · LexLimits: laid · LexAgain: laid · LexJoins: laid · LexWords: laid · LexMarks: laid.
  DERIVED. THE GIVEN ROWS OF THIS SEAT. 6 by the template 'for every input the law returns true; each argument reads behind the call as it read before'; 0 by the template 'total and deterministic' (their statements: YtaochdmbbbighaaDoorTotals.lean).
  GIVEN WITH THE SEED: the statements are not yours to turn. If you find one false, say at which input.
  Laid BY PROGRAM, IN A SANDBOX (cutbox-rows.mjs): the forced cells as the released guide's own fill.sh prints them over the translation 701f4f13c24b90c5… (all of the seat's roots in one cut). By AI agents, Wed Nov 11 2026. No macro, syntax, notation, axiom, sorry.
-/
import Derived.Test.YtaochdmbbbighaaDoorChecked
import GoSem.Claim
import GoSem.ClaimJoined
import GoSem.ClaimMapViews
import Derived.JoinedTies
import Derived.KernelRfl
namespace Go.Proofs.YtaochdmbbbighaaDoor
/- THE CELL 'sum', in the pinned program and in every row, IS THE sha256 OF THE DUMP (.gsa) THAT YtaochdmbbbighaaDoorProg.lean LOADS. Nothing in Lean hashes anything: it is a label: what it is worth is what the hold of that sum in a sandbox is worth. -/
noncomputable def Tryd.pinned : Pinned := { name := "ytaochdmbbbighaadoor", sum := "701f4f13c24b90c59b4958add552b7033cc221945f50d5551ba67412726fdef5", checked := Tryd.checked }
namespace Rows
def none {H : Type} : Left H := { results := [], args := [] }

/- WHAT THE LISTED PACKAGE-LEVEL VARIABLES READ AS WHEN THE CALL BEGINS. Each datum BY PROGRAM (the guide's laid-datum.mjs) off the statement by which the dump's own 'gosem.cut.vars' lays the variable. In a bare row this is a premise. The card (YtaochdmbbbighaaDoorCards.lean) ties it to the program's text. -/
def laid_kiln_lex_marks {H : Type} : DataW H := .agg [.lit (.string [61, 61]), .lit (.string [33, 61]), .lit (.string [60, 61]), .lit (.string [38, 38]), .lit (.string [124, 124]), .lit (.string [43]), .lit (.string [45]), .lit (.string [42]), .lit (.string [47]), .lit (.string [37]), .lit (.string [60]), .lit (.string [61]), .lit (.string [33]), .lit (.string [40]), .lit (.string [41]), .lit (.string [91]), .lit (.string [93]), .lit (.string [123]), .lit (.string [125]), .lit (.string [59]), .lit (.string [44]), .lit (.string [46])]
def laid_kiln_lex_words {H : Type} : DataW H := .agg [.lit (.string [97, 115]), .lit (.string [98, 111, 111, 108]), .lit (.string [99, 108, 97, 115, 115]), .lit (.string [101, 108, 115, 101]), .lit (.string [101, 120, 116, 101, 110, 100, 115]), .lit (.string [102, 97, 108, 115, 101]), .lit (.string [102, 105, 101, 108, 100]), .lit (.string [105, 102]), .lit (.string [105, 110, 116]), .lit (.string [105, 115]), .lit (.string [108, 101, 110, 103, 116, 104]), .lit (.string [108, 101, 116]), .lit (.string [109, 101, 116, 104, 111, 100]), .lit (.string [110, 101, 119]), .lit (.string [110, 117, 108, 108]), .lit (.string [112, 114, 105, 110, 116]), .lit (.string [114, 101, 116, 117, 114, 110]), .lit (.string [115, 116, 97, 116, 105, 99]), .lit (.string [116, 104, 105, 115]), .lit (.string [116, 114, 117, 101]), .lit (.string [119, 104, 105, 108, 101])]
def laid_math_bits_deBruijn32tab {H : Type} : DataW H := .agg [.lit (.int .u8 0), .lit (.int .u8 1), .lit (.int .u8 28), .lit (.int .u8 2), .lit (.int .u8 29), .lit (.int .u8 14), .lit (.int .u8 24), .lit (.int .u8 3), .lit (.int .u8 30), .lit (.int .u8 22), .lit (.int .u8 20), .lit (.int .u8 15), .lit (.int .u8 25), .lit (.int .u8 17), .lit (.int .u8 4), .lit (.int .u8 8), .lit (.int .u8 31), .lit (.int .u8 27), .lit (.int .u8 13), .lit (.int .u8 23), .lit (.int .u8 21), .lit (.int .u8 19), .lit (.int .u8 16), .lit (.int .u8 7), .lit (.int .u8 26), .lit (.int .u8 12), .lit (.int .u8 18), .lit (.int .u8 6), .lit (.int .u8 11), .lit (.int .u8 5), .lit (.int .u8 10), .lit (.int .u8 9)]
def laid_math_bits_deBruijn64tab {H : Type} : DataW H := .agg [.lit (.int .u8 0), .lit (.int .u8 1), .lit (.int .u8 56), .lit (.int .u8 2), .lit (.int .u8 57), .lit (.int .u8 49), .lit (.int .u8 28), .lit (.int .u8 3), .lit (.int .u8 61), .lit (.int .u8 58), .lit (.int .u8 42), .lit (.int .u8 50), .lit (.int .u8 38), .lit (.int .u8 29), .lit (.int .u8 17), .lit (.int .u8 4), .lit (.int .u8 62), .lit (.int .u8 47), .lit (.int .u8 59), .lit (.int .u8 36), .lit (.int .u8 45), .lit (.int .u8 43), .lit (.int .u8 51), .lit (.int .u8 22), .lit (.int .u8 53), .lit (.int .u8 39), .lit (.int .u8 33), .lit (.int .u8 30), .lit (.int .u8 24), .lit (.int .u8 18), .lit (.int .u8 12), .lit (.int .u8 5), .lit (.int .u8 63), .lit (.int .u8 55), .lit (.int .u8 48), .lit (.int .u8 27), .lit (.int .u8 60), .lit (.int .u8 41), .lit (.int .u8 37), .lit (.int .u8 16), .lit (.int .u8 46), .lit (.int .u8 35), .lit (.int .u8 44), .lit (.int .u8 21), .lit (.int .u8 52), .lit (.int .u8 32), .lit (.int .u8 23), .lit (.int .u8 11), .lit (.int .u8 54), .lit (.int .u8 26), .lit (.int .u8 40), .lit (.int .u8 15), .lit (.int .u8 34), .lit (.int .u8 20), .lit (.int .u8 31), .lit (.int .u8 10), .lit (.int .u8 25), .lit (.int .u8 14), .lit (.int .u8 19), .lit (.int .u8 9), .lit (.int .u8 13), .lit (.int .u8 8), .lit (.int .u8 7), .lit (.int .u8 6)]
def laid_internal_strconv_uint64pow10 {H : Type} : DataW H := .agg [.lit (.int .u64 1), .lit (.int .u64 10), .lit (.int .u64 100), .lit (.int .u64 1000), .lit (.int .u64 10000), .lit (.int .u64 100000), .lit (.int .u64 1000000), .lit (.int .u64 10000000), .lit (.int .u64 100000000), .lit (.int .u64 1000000000), .lit (.int .u64 10000000000), .lit (.int .u64 100000000000), .lit (.int .u64 1000000000000), .lit (.int .u64 10000000000000), .lit (.int .u64 100000000000000), .lit (.int .u64 1000000000000000), .lit (.int .u64 10000000000000000), .lit (.int .u64 100000000000000000), .lit (.int .u64 1000000000000000000), .lit (.int .u64 10000000000000000000)]

/-- 'kilnlaw04.LexAny': WHATEVER THE INPUT: true; the input reads as it did. -/
def lexAnySpec : ChangeSpec := { name := "lexAny", fn := fun _ => fun
  | [d] => { results := [.lit (.bool true)], args := [d] }
  | _ => none }
def lexAnyRow : OpenClaim := { program := "ytaochdmbbbighaadoor", sum := "701f4f13c24b90c59b4958add552b7033cc221945f50d5551ba67412726fdef5", func := "kiln/kilnlaw04.LexAny", spec := "lexAny", inPlace := ["internal/bytealg.IndexByteString"], unfollowed := true, recurses := true, named := ["kiln/lex.words", "kiln/lex.marks"], apart := false, laid := [("kiln/lex.marks", laid_kiln_lex_marks), ("kiln/lex.words", laid_kiln_lex_words)] }
def LexAnySaid : Prop := lexAnyRow.holds Tryd.pinned (OpenSpec.ofChange lexAnySpec)

/-- ITS FALSE NEIGHBOUR: 'it returns false'. Refute it at one input. -/
def lexAnyWrong : ChangeSpec := { name := "lexAny", fn := fun _ => fun
  | [d] => { results := [.lit (.bool false)], args := [d] }
  | _ => none }
def LexAnyWrongFalsely : Prop := lexAnyRow.holds Tryd.pinned (OpenSpec.ofChange lexAnyWrong)

/-- 'kilnlaw04.LexLimits': WHATEVER THE INPUT: true; the input reads as it did. -/
def lexLimitsSpec : ChangeSpec := { name := "lexLimits", fn := fun _ => fun
  | [d1, d2, d3] => { results := [.lit (.bool true)], args := [d1, d2, d3] }
  | _ => none }
def lexLimitsRow : OpenClaim := { program := "ytaochdmbbbighaadoor", sum := "701f4f13c24b90c59b4958add552b7033cc221945f50d5551ba67412726fdef5", func := "kiln/kilnlaw04.LexLimits", spec := "lexLimits", inPlace := ["internal/bytealg.IndexByteString"], unfollowed := true, recurses := true, named := ["kiln/lex.words", "kiln/lex.marks", "internal/strconv.uint64pow10", "math/bits.deBruijn32tab", "math/bits.deBruijn64tab"], apart := false, laid := [("math/bits.deBruijn32tab", laid_math_bits_deBruijn32tab), ("math/bits.deBruijn64tab", laid_math_bits_deBruijn64tab), ("internal/strconv.uint64pow10", laid_internal_strconv_uint64pow10), ("kiln/lex.marks", laid_kiln_lex_marks), ("kiln/lex.words", laid_kiln_lex_words)] }
def LexLimitsSaid : Prop := lexLimitsRow.holds Tryd.pinned (OpenSpec.ofChange lexLimitsSpec)

/-- ITS FALSE NEIGHBOUR: 'it returns false'. Refute it at one input. -/
def lexLimitsWrong : ChangeSpec := { name := "lexLimits", fn := fun _ => fun
  | [d1, d2, d3] => { results := [.lit (.bool false)], args := [d1, d2, d3] }
  | _ => none }
def LexLimitsWrongFalsely : Prop := lexLimitsRow.holds Tryd.pinned (OpenSpec.ofChange lexLimitsWrong)

/-- 'kilnlaw04.LexAgain': WHATEVER THE INPUT: true; the input reads as it did. -/
def lexAgainSpec : ChangeSpec := { name := "lexAgain", fn := fun _ => fun
  | [d] => { results := [.lit (.bool true)], args := [d] }
  | _ => none }
def lexAgainRow : OpenClaim := { program := "ytaochdmbbbighaadoor", sum := "701f4f13c24b90c59b4958add552b7033cc221945f50d5551ba67412726fdef5", func := "kiln/kilnlaw04.LexAgain", spec := "lexAgain", inPlace := ["internal/bytealg.IndexByteString"], unfollowed := true, recurses := true, named := ["kiln/lex.words", "kiln/lex.marks"], apart := false, laid := [("kiln/lex.marks", laid_kiln_lex_marks), ("kiln/lex.words", laid_kiln_lex_words)] }
def LexAgainSaid : Prop := lexAgainRow.holds Tryd.pinned (OpenSpec.ofChange lexAgainSpec)

/-- ITS FALSE NEIGHBOUR: 'it returns false'. Refute it at one input. -/
def lexAgainWrong : ChangeSpec := { name := "lexAgain", fn := fun _ => fun
  | [d] => { results := [.lit (.bool false)], args := [d] }
  | _ => none }
def LexAgainWrongFalsely : Prop := lexAgainRow.holds Tryd.pinned (OpenSpec.ofChange lexAgainWrong)

/-- 'kilnlaw04.LexJoins': WHATEVER THE INPUT: true; the input reads as it did. -/
def lexJoinsSpec : ChangeSpec := { name := "lexJoins", fn := fun _ => fun
  | [d1, d2] => { results := [.lit (.bool true)], args := [d1, d2] }
  | _ => none }
def lexJoinsRow : OpenClaim := { program := "ytaochdmbbbighaadoor", sum := "701f4f13c24b90c59b4958add552b7033cc221945f50d5551ba67412726fdef5", func := "kiln/kilnlaw04.LexJoins", spec := "lexJoins", inPlace := ["internal/bytealg.IndexByteString"], unfollowed := true, recurses := true, named := ["kiln/lex.words", "kiln/lex.marks"], apart := false, laid := [("kiln/lex.marks", laid_kiln_lex_marks), ("kiln/lex.words", laid_kiln_lex_words)] }
def LexJoinsSaid : Prop := lexJoinsRow.holds Tryd.pinned (OpenSpec.ofChange lexJoinsSpec)

/-- ITS FALSE NEIGHBOUR: 'it returns false'. Refute it at one input. -/
def lexJoinsWrong : ChangeSpec := { name := "lexJoins", fn := fun _ => fun
  | [d1, d2] => { results := [.lit (.bool false)], args := [d1, d2] }
  | _ => none }
def LexJoinsWrongFalsely : Prop := lexJoinsRow.holds Tryd.pinned (OpenSpec.ofChange lexJoinsWrong)

/-- 'kilnlaw04.LexWords': WHATEVER THE INPUT: true; the input reads as it did. -/
def lexWordsSpec : ChangeSpec := { name := "lexWords", fn := fun _ => fun
  | [d1, d2] => { results := [.lit (.bool true)], args := [d1, d2] }
  | _ => none }
def lexWordsRow : OpenClaim := { program := "ytaochdmbbbighaadoor", sum := "701f4f13c24b90c59b4958add552b7033cc221945f50d5551ba67412726fdef5", func := "kiln/kilnlaw04.LexWords", spec := "lexWords", inPlace := ["internal/bytealg.IndexByteString"], unfollowed := true, recurses := true, named := ["kiln/lex.words", "kiln/lex.marks"], apart := false, laid := [("kiln/lex.marks", laid_kiln_lex_marks), ("kiln/lex.words", laid_kiln_lex_words)] }
def LexWordsSaid : Prop := lexWordsRow.holds Tryd.pinned (OpenSpec.ofChange lexWordsSpec)

/-- ITS FALSE NEIGHBOUR: 'it returns false'. Refute it at one input. -/
def lexWordsWrong : ChangeSpec := { name := "lexWords", fn := fun _ => fun
  | [d1, d2] => { results := [.lit (.bool false)], args := [d1, d2] }
  | _ => none }
def LexWordsWrongFalsely : Prop := lexWordsRow.holds Tryd.pinned (OpenSpec.ofChange lexWordsWrong)

/-- 'kilnlaw04.LexMarks': WHATEVER THE INPUT: true; the input reads as it did. -/
def lexMarksSpec : ChangeSpec := { name := "lexMarks", fn := fun _ => fun
  | [d1, d2] => { results := [.lit (.bool true)], args := [d1, d2] }
  | _ => none }
def lexMarksRow : OpenClaim := { program := "ytaochdmbbbighaadoor", sum := "701f4f13c24b90c59b4958add552b7033cc221945f50d5551ba67412726fdef5", func := "kiln/kilnlaw04.LexMarks", spec := "lexMarks", inPlace := ["internal/bytealg.IndexByteString"], unfollowed := true, recurses := true, named := ["kiln/lex.words", "kiln/lex.marks", "internal/strconv.uint64pow10", "math/bits.deBruijn32tab", "math/bits.deBruijn64tab"], apart := false, laid := [("math/bits.deBruijn32tab", laid_math_bits_deBruijn32tab), ("math/bits.deBruijn64tab", laid_math_bits_deBruijn64tab), ("internal/strconv.uint64pow10", laid_internal_strconv_uint64pow10), ("kiln/lex.marks", laid_kiln_lex_marks), ("kiln/lex.words", laid_kiln_lex_words)] }
def LexMarksSaid : Prop := lexMarksRow.holds Tryd.pinned (OpenSpec.ofChange lexMarksSpec)

/-- ITS FALSE NEIGHBOUR: 'it returns false'. Refute it at one input. -/
def lexMarksWrong : ChangeSpec := { name := "lexMarks", fn := fun _ => fun
  | [d1, d2] => { results := [.lit (.bool false)], args := [d1, d2] }
  | _ => none }
def LexMarksWrongFalsely : Prop := lexMarksRow.holds Tryd.pinned (OpenSpec.ofChange lexMarksWrong)

/- THE SECOND FORM. 'bulk': how many values and letters a reading holds, each counted each time it is reached (what is shared counts as often as it is met; a slice's spare places count too). A statement '..UptoSaid' is the law's where the arguments, and the package variables that the reading takes, are together of bulk at most 1048576: NARROWER than '..Said'. Prove '..Said' where nothing that the law and all that it calls make is longer than what came in: it says more and counts as full. Else prove '..UptoSaid'. A law counts once. -/
mutual
def uptoBulk {H : Type} : DataW H → Nat
  | .lit (.string bytes) => bytes.length + 1
  | .lit _ => 1
  | .nil => 1
  | .ptr d => uptoBulk d + 1
  | .slice elems spare => uptoBulkAll elems + uptoBulkAll spare + 1
  | .agg parts => uptoBulkAll parts + 1
  | .iface _ d => uptoBulk d + 1
  | .map entries => uptoBulkEntries entries + 1
  | .held _ => 1
def uptoBulkAll {H : Type} : List (DataW H) → Nat
  | [] => 0
  | d :: r => uptoBulk d + uptoBulkAll r
def uptoBulkEntries {H : Type} : List (Lit × DataW H) → Nat
  | [] => 0
  | x :: r => uptoBulkEntry x + uptoBulkEntries r
def uptoBulkEntry {H : Type} : Lit × DataW H → Nat
  | (.string bytes, d) => bytes.length + uptoBulk d + 1
  | (_, d) => uptoBulk d + 1
 end
def uptoSmall : (H : Type) → List (DataW H) → Bool := fun _ ds => decide (uptoBulkAll ds ≤ 1048576)
def OpenSpec.upto (s : _root_.Go.ChangeSpec) : _root_.Go.OpenSpec := { _root_.Go.OpenSpec.ofChange s with cond := some uptoSmall }

/-- 'kilnlaw04.LexAny', WHERE WHAT IT READS IS OF BULK AT MOST 1048576: true; the input reads as it did. -/
def lexAnyUptoRow : OpenClaim := { program := "ytaochdmbbbighaadoor", sum := "701f4f13c24b90c59b4958add552b7033cc221945f50d5551ba67412726fdef5", func := "kiln/kilnlaw04.LexAny", spec := "lexAny", inPlace := ["internal/bytealg.IndexByteString"], unfollowed := true, recurses := true, named := ["kiln/lex.words", "kiln/lex.marks"], apart := false, laid := [("kiln/lex.marks", laid_kiln_lex_marks), ("kiln/lex.words", laid_kiln_lex_words)], narrowed := true }
def LexAnyUptoSaid : Prop := lexAnyUptoRow.holds Tryd.pinned (OpenSpec.upto lexAnySpec)

/-- 'kilnlaw04.LexLimits', WHERE WHAT IT READS IS OF BULK AT MOST 1048576: true; the input reads as it did. -/
def lexLimitsUptoRow : OpenClaim := { program := "ytaochdmbbbighaadoor", sum := "701f4f13c24b90c59b4958add552b7033cc221945f50d5551ba67412726fdef5", func := "kiln/kilnlaw04.LexLimits", spec := "lexLimits", inPlace := ["internal/bytealg.IndexByteString"], unfollowed := true, recurses := true, named := ["kiln/lex.words", "kiln/lex.marks", "internal/strconv.uint64pow10", "math/bits.deBruijn32tab", "math/bits.deBruijn64tab"], apart := false, laid := [("math/bits.deBruijn32tab", laid_math_bits_deBruijn32tab), ("math/bits.deBruijn64tab", laid_math_bits_deBruijn64tab), ("internal/strconv.uint64pow10", laid_internal_strconv_uint64pow10), ("kiln/lex.marks", laid_kiln_lex_marks), ("kiln/lex.words", laid_kiln_lex_words)], narrowed := true }
def LexLimitsUptoSaid : Prop := lexLimitsUptoRow.holds Tryd.pinned (OpenSpec.upto lexLimitsSpec)

/-- 'kilnlaw04.LexAgain', WHERE WHAT IT READS IS OF BULK AT MOST 1048576: true; the input reads as it did. -/
def lexAgainUptoRow : OpenClaim := { program := "ytaochdmbbbighaadoor", sum := "701f4f13c24b90c59b4958add552b7033cc221945f50d5551ba67412726fdef5", func := "kiln/kilnlaw04.LexAgain", spec := "lexAgain", inPlace := ["internal/bytealg.IndexByteString"], unfollowed := true, recurses := true, named := ["kiln/lex.words", "kiln/lex.marks"], apart := false, laid := [("kiln/lex.marks", laid_kiln_lex_marks), ("kiln/lex.words", laid_kiln_lex_words)], narrowed := true }
def LexAgainUptoSaid : Prop := lexAgainUptoRow.holds Tryd.pinned (OpenSpec.upto lexAgainSpec)

/-- 'kilnlaw04.LexJoins', WHERE WHAT IT READS IS OF BULK AT MOST 1048576: true; the input reads as it did. -/
def lexJoinsUptoRow : OpenClaim := { program := "ytaochdmbbbighaadoor", sum := "701f4f13c24b90c59b4958add552b7033cc221945f50d5551ba67412726fdef5", func := "kiln/kilnlaw04.LexJoins", spec := "lexJoins", inPlace := ["internal/bytealg.IndexByteString"], unfollowed := true, recurses := true, named := ["kiln/lex.words", "kiln/lex.marks"], apart := false, laid := [("kiln/lex.marks", laid_kiln_lex_marks), ("kiln/lex.words", laid_kiln_lex_words)], narrowed := true }
def LexJoinsUptoSaid : Prop := lexJoinsUptoRow.holds Tryd.pinned (OpenSpec.upto lexJoinsSpec)

/-- 'kilnlaw04.LexWords', WHERE WHAT IT READS IS OF BULK AT MOST 1048576: true; the input reads as it did. -/
def lexWordsUptoRow : OpenClaim := { program := "ytaochdmbbbighaadoor", sum := "701f4f13c24b90c59b4958add552b7033cc221945f50d5551ba67412726fdef5", func := "kiln/kilnlaw04.LexWords", spec := "lexWords", inPlace := ["internal/bytealg.IndexByteString"], unfollowed := true, recurses := true, named := ["kiln/lex.words", "kiln/lex.marks"], apart := false, laid := [("kiln/lex.marks", laid_kiln_lex_marks), ("kiln/lex.words", laid_kiln_lex_words)], narrowed := true }
def LexWordsUptoSaid : Prop := lexWordsUptoRow.holds Tryd.pinned (OpenSpec.upto lexWordsSpec)

/-- 'kilnlaw04.LexMarks', WHERE WHAT IT READS IS OF BULK AT MOST 1048576: true; the input reads as it did. -/
def lexMarksUptoRow : OpenClaim := { program := "ytaochdmbbbighaadoor", sum := "701f4f13c24b90c59b4958add552b7033cc221945f50d5551ba67412726fdef5", func := "kiln/kilnlaw04.LexMarks", spec := "lexMarks", inPlace := ["internal/bytealg.IndexByteString"], unfollowed := true, recurses := true, named := ["kiln/lex.words", "kiln/lex.marks", "internal/strconv.uint64pow10", "math/bits.deBruijn32tab", "math/bits.deBruijn64tab"], apart := false, laid := [("math/bits.deBruijn32tab", laid_math_bits_deBruijn32tab), ("math/bits.deBruijn64tab", laid_math_bits_deBruijn64tab), ("internal/strconv.uint64pow10", laid_internal_strconv_uint64pow10), ("kiln/lex.marks", laid_kiln_lex_marks), ("kiln/lex.words", laid_kiln_lex_words)], narrowed := true }
def LexMarksUptoSaid : Prop := lexMarksUptoRow.holds Tryd.pinned (OpenSpec.upto lexMarksSpec)

end Rows
end Go.Proofs.YtaochdmbbbighaaDoor
