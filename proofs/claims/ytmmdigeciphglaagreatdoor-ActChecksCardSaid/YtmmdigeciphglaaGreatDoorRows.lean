/-
  NARROWER THAN 'FOR EVERY INPUT', by the rows' own cells (each row's printed sentence says how): ActParse: laid · ActChecks: laid · ActBack: laid · ActJoins: laid · RunDoes: laid · RunTexts: laid · RunTypes: laid · RunParts: laid.
  DERIVED. THE GIVEN ROWS OF THIS SEAT. 8 by the template 'for every input the law returns true; each argument reads behind the call as it read before'; 0 by the template 'total and deterministic' (their statements: YtmmdigeciphglaaGreatDoorTotals.lean).
  GIVEN WITH THE SEED: the statements are not yours to turn. If you find one false, say at which input.
  Laid BY PROGRAM, IN A SANDBOX (cutbox-rows.mjs): the forced cells as the released guide's own fill.sh prints them over the translation 5257ba972a8bcb41… (all of the seat's roots in one cut). By AI agents, Wed Nov 11 2026. No macro, syntax, notation, axiom, sorry.
-/
import Derived.Test.YtmmdigeciphglaaGreatDoorChecked
import GoSem.PinnedTables
import GoSem.Claim
import GoSem.ClaimJoined
import GoSem.ClaimMapViews
import Derived.JoinedTies
import Derived.KernelRfl
namespace Go.Proofs.YtmmdigeciphglaaGreatDoor
/- THE CELL 'sum', in the pinned program and in every row, IS THE sha256 OF THE DUMP (.gsa) THAT YtmmdigeciphglaaGreatDoorProg.lean LOADS. Nothing in Lean hashes anything: it is a label: what it is worth is what the hold of that sum in a sandbox is worth. -/
noncomputable def Tryz.pinned : Pinned := { name := "ytmmdigeciphglaagreatdoor", sum := "5257ba972a8bcb412d31c2dbb6b76f6cc66926c8cbe829d2ec05a0ef47d396e8", checked := Tryz.checked }
namespace Rows
def none {H : Type} : Left H := { results := [], args := [] }

/- WHAT THE LISTED PACKAGE-LEVEL VARIABLES READ AS WHEN THE CALL BEGINS. Each datum BY PROGRAM (the guide's laid-datum.mjs) off the statement by which the dump's own 'gosem.cut.vars' lays the variable. In a bare row this is a premise. The card (YtmmdigeciphglaaGreatDoorCards.lean) ties it to the program's text. -/
def laid_math_bits_deBruijn32tab {H : Type} : DataW H := .agg [.lit (.int .u8 0), .lit (.int .u8 1), .lit (.int .u8 28), .lit (.int .u8 2), .lit (.int .u8 29), .lit (.int .u8 14), .lit (.int .u8 24), .lit (.int .u8 3), .lit (.int .u8 30), .lit (.int .u8 22), .lit (.int .u8 20), .lit (.int .u8 15), .lit (.int .u8 25), .lit (.int .u8 17), .lit (.int .u8 4), .lit (.int .u8 8), .lit (.int .u8 31), .lit (.int .u8 27), .lit (.int .u8 13), .lit (.int .u8 23), .lit (.int .u8 21), .lit (.int .u8 19), .lit (.int .u8 16), .lit (.int .u8 7), .lit (.int .u8 26), .lit (.int .u8 12), .lit (.int .u8 18), .lit (.int .u8 6), .lit (.int .u8 11), .lit (.int .u8 5), .lit (.int .u8 10), .lit (.int .u8 9)]
def laid_math_bits_deBruijn64tab {H : Type} : DataW H := .agg [.lit (.int .u8 0), .lit (.int .u8 1), .lit (.int .u8 56), .lit (.int .u8 2), .lit (.int .u8 57), .lit (.int .u8 49), .lit (.int .u8 28), .lit (.int .u8 3), .lit (.int .u8 61), .lit (.int .u8 58), .lit (.int .u8 42), .lit (.int .u8 50), .lit (.int .u8 38), .lit (.int .u8 29), .lit (.int .u8 17), .lit (.int .u8 4), .lit (.int .u8 62), .lit (.int .u8 47), .lit (.int .u8 59), .lit (.int .u8 36), .lit (.int .u8 45), .lit (.int .u8 43), .lit (.int .u8 51), .lit (.int .u8 22), .lit (.int .u8 53), .lit (.int .u8 39), .lit (.int .u8 33), .lit (.int .u8 30), .lit (.int .u8 24), .lit (.int .u8 18), .lit (.int .u8 12), .lit (.int .u8 5), .lit (.int .u8 63), .lit (.int .u8 55), .lit (.int .u8 48), .lit (.int .u8 27), .lit (.int .u8 60), .lit (.int .u8 41), .lit (.int .u8 37), .lit (.int .u8 16), .lit (.int .u8 46), .lit (.int .u8 35), .lit (.int .u8 44), .lit (.int .u8 21), .lit (.int .u8 52), .lit (.int .u8 32), .lit (.int .u8 23), .lit (.int .u8 11), .lit (.int .u8 54), .lit (.int .u8 26), .lit (.int .u8 40), .lit (.int .u8 15), .lit (.int .u8 34), .lit (.int .u8 20), .lit (.int .u8 31), .lit (.int .u8 10), .lit (.int .u8 25), .lit (.int .u8 14), .lit (.int .u8 19), .lit (.int .u8 9), .lit (.int .u8 13), .lit (.int .u8 8), .lit (.int .u8 7), .lit (.int .u8 6)]
def laid_internal_strconv_uint64pow10 {H : Type} : DataW H := .agg [.lit (.int .u64 1), .lit (.int .u64 10), .lit (.int .u64 100), .lit (.int .u64 1000), .lit (.int .u64 10000), .lit (.int .u64 100000), .lit (.int .u64 1000000), .lit (.int .u64 10000000), .lit (.int .u64 100000000), .lit (.int .u64 1000000000), .lit (.int .u64 10000000000), .lit (.int .u64 100000000000), .lit (.int .u64 1000000000000), .lit (.int .u64 10000000000000), .lit (.int .u64 100000000000000), .lit (.int .u64 1000000000000000), .lit (.int .u64 10000000000000000), .lit (.int .u64 100000000000000000), .lit (.int .u64 1000000000000000000), .lit (.int .u64 10000000000000000000)]
def laid_unicode_utf8_acceptRanges {H : Type} : DataW H := .agg [.agg [.lit (.int .u8 128), .lit (.int .u8 191)], .agg [.lit (.int .u8 160), .lit (.int .u8 191)], .agg [.lit (.int .u8 128), .lit (.int .u8 159)], .agg [.lit (.int .u8 144), .lit (.int .u8 191)], .agg [.lit (.int .u8 128), .lit (.int .u8 143)], .agg [.lit (.int .u8 0), .lit (.int .u8 0)], .agg [.lit (.int .u8 0), .lit (.int .u8 0)], .agg [.lit (.int .u8 0), .lit (.int .u8 0)], .agg [.lit (.int .u8 0), .lit (.int .u8 0)], .agg [.lit (.int .u8 0), .lit (.int .u8 0)], .agg [.lit (.int .u8 0), .lit (.int .u8 0)], .agg [.lit (.int .u8 0), .lit (.int .u8 0)], .agg [.lit (.int .u8 0), .lit (.int .u8 0)], .agg [.lit (.int .u8 0), .lit (.int .u8 0)], .agg [.lit (.int .u8 0), .lit (.int .u8 0)], .agg [.lit (.int .u8 0), .lit (.int .u8 0)]]
def laid_strconv_ErrRange {H : Type} : DataW H := .iface "*errors.errorString" (.ptr (.agg [.lit (.string [118, 97, 108, 117, 101, 32, 111, 117, 116, 32, 111, 102, 32, 114, 97, 110, 103, 101])]))
def laid_strconv_ErrSyntax {H : Type} : DataW H := .iface "*errors.errorString" (.ptr (.agg [.lit (.string [105, 110, 118, 97, 108, 105, 100, 32, 115, 121, 110, 116, 97, 120])]))
def laid_hopscotch_lex_signs {H : Type} : DataW H := .agg [.lit (.string [58, 61]), .lit (.string [60, 62]), .lit (.string [60, 61]), .lit (.string [62, 61]), .lit (.string [60]), .lit (.string [62]), .lit (.string [61]), .lit (.string [43]), .lit (.string [45]), .lit (.string [42]), .lit (.string [40]), .lit (.string [41]), .lit (.string [44]), .lit (.string [59])]
def laid_hopscotch_expr_forms {H : Type} : DataW H := .agg [.agg [.lit (.string []), .lit (.int .u8 0), .lit (.int .i64 0)], .agg [.lit (.string []), .lit (.int .u8 10), .lit (.int .i64 0)], .agg [.lit (.string []), .lit (.int .u8 10), .lit (.int .i64 0)], .agg [.lit (.string [116, 114, 117, 101]), .lit (.int .u8 10), .lit (.int .i64 0)], .agg [.lit (.string [102, 97, 108, 115, 101]), .lit (.int .u8 10), .lit (.int .i64 0)], .agg [.lit (.string [45]), .lit (.int .u8 9), .lit (.int .i64 1)], .agg [.lit (.string [110, 111, 116]), .lit (.int .u8 9), .lit (.int .i64 1)], .agg [.lit (.string [42]), .lit (.int .u8 8), .lit (.int .i64 2)], .agg [.lit (.string [100, 105, 118]), .lit (.int .u8 8), .lit (.int .i64 2)], .agg [.lit (.string [109, 111, 100]), .lit (.int .u8 8), .lit (.int .i64 2)], .agg [.lit (.string [43]), .lit (.int .u8 7), .lit (.int .i64 2)], .agg [.lit (.string [45]), .lit (.int .u8 7), .lit (.int .i64 2)], .agg [.lit (.string [60]), .lit (.int .u8 6), .lit (.int .i64 2)], .agg [.lit (.string [60, 61]), .lit (.int .u8 6), .lit (.int .i64 2)], .agg [.lit (.string [62]), .lit (.int .u8 6), .lit (.int .i64 2)], .agg [.lit (.string [62, 61]), .lit (.int .u8 6), .lit (.int .i64 2)], .agg [.lit (.string [61]), .lit (.int .u8 5), .lit (.int .i64 2)], .agg [.lit (.string [60, 62]), .lit (.int .u8 5), .lit (.int .i64 2)], .agg [.lit (.string [97, 110, 100]), .lit (.int .u8 4), .lit (.int .i64 2)], .agg [.lit (.string [111, 114]), .lit (.int .u8 3), .lit (.int .i64 2)], .agg [.lit (.string [120, 111, 114]), .lit (.int .u8 2), .lit (.int .i64 2)], .agg [.lit (.string [105, 109, 112, 108, 105, 101, 115]), .lit (.int .u8 1), .lit (.int .i64 2)], .agg [.lit (.string [105, 102]), .lit (.int .u8 10), .lit (.int .i64 3)]]
def laid_hopscotch_types_rules {H : Type} : DataW H := .agg [.agg [.agg [.lit (.int .u8 0), .lit (.int .u8 0), .lit (.int .u8 0)], .lit (.int .u8 0)], .agg [.agg [.lit (.int .u8 0), .lit (.int .u8 0), .lit (.int .u8 0)], .lit (.int .u8 1)], .agg [.agg [.lit (.int .u8 0), .lit (.int .u8 0), .lit (.int .u8 0)], .lit (.int .u8 1)], .agg [.agg [.lit (.int .u8 0), .lit (.int .u8 0), .lit (.int .u8 0)], .lit (.int .u8 2)], .agg [.agg [.lit (.int .u8 0), .lit (.int .u8 0), .lit (.int .u8 0)], .lit (.int .u8 2)], .agg [.agg [.lit (.int .u8 1), .lit (.int .u8 0), .lit (.int .u8 0)], .lit (.int .u8 1)], .agg [.agg [.lit (.int .u8 2), .lit (.int .u8 0), .lit (.int .u8 0)], .lit (.int .u8 2)], .agg [.agg [.lit (.int .u8 1), .lit (.int .u8 1), .lit (.int .u8 0)], .lit (.int .u8 1)], .agg [.agg [.lit (.int .u8 1), .lit (.int .u8 1), .lit (.int .u8 0)], .lit (.int .u8 1)], .agg [.agg [.lit (.int .u8 1), .lit (.int .u8 1), .lit (.int .u8 0)], .lit (.int .u8 1)], .agg [.agg [.lit (.int .u8 1), .lit (.int .u8 1), .lit (.int .u8 0)], .lit (.int .u8 1)], .agg [.agg [.lit (.int .u8 1), .lit (.int .u8 1), .lit (.int .u8 0)], .lit (.int .u8 1)], .agg [.agg [.lit (.int .u8 1), .lit (.int .u8 1), .lit (.int .u8 0)], .lit (.int .u8 2)], .agg [.agg [.lit (.int .u8 1), .lit (.int .u8 1), .lit (.int .u8 0)], .lit (.int .u8 2)], .agg [.agg [.lit (.int .u8 1), .lit (.int .u8 1), .lit (.int .u8 0)], .lit (.int .u8 2)], .agg [.agg [.lit (.int .u8 1), .lit (.int .u8 1), .lit (.int .u8 0)], .lit (.int .u8 2)], .agg [.agg [.lit (.int .u8 3), .lit (.int .u8 3), .lit (.int .u8 0)], .lit (.int .u8 2)], .agg [.agg [.lit (.int .u8 3), .lit (.int .u8 3), .lit (.int .u8 0)], .lit (.int .u8 2)], .agg [.agg [.lit (.int .u8 2), .lit (.int .u8 2), .lit (.int .u8 0)], .lit (.int .u8 2)], .agg [.agg [.lit (.int .u8 2), .lit (.int .u8 2), .lit (.int .u8 0)], .lit (.int .u8 2)], .agg [.agg [.lit (.int .u8 2), .lit (.int .u8 2), .lit (.int .u8 0)], .lit (.int .u8 2)], .agg [.agg [.lit (.int .u8 2), .lit (.int .u8 2), .lit (.int .u8 0)], .lit (.int .u8 2)], .agg [.agg [.lit (.int .u8 2), .lit (.int .u8 3), .lit (.int .u8 3)], .lit (.int .u8 3)]]
/-- One of Go's own tables, pinned by name: the form's constant. -/
def laid_unicode_utf8_first : DataW Unit := Go.Pinned.utf8First

/-- 'hopscotchlaw11.ActParse': WHATEVER THE INPUT: true; the input reads as it did. -/
def actParseSpec : ChangeSpec := { name := "actParse", fn := fun _ => fun
  | [d] => { results := [.lit (.bool true)], args := [d] }
  | _ => none }
def actParseRow : OpenClaim := { program := "ytmmdigeciphglaagreatdoor", sum := "5257ba972a8bcb412d31c2dbb6b76f6cc66926c8cbe829d2ec05a0ef47d396e8", func := "hopscotch/hopscotchlaw11.ActParse", spec := "actParse", inPlace := ["internal/bytealg.IndexByteString", "internal/bytealg.IndexString", "internal/reflectlite.TypeOf", "internal/abi.NoEscape", "internal/bytealg.MakeNoZero"], unfollowed := true, recurses := true, named := ["hopscotch/lex.signs", "unicode/utf8.first", "unicode/utf8.acceptRanges", "strconv.ErrRange", "strconv.ErrSyntax", "internal/strconv.uint64pow10", "math/bits.deBruijn32tab", "math/bits.deBruijn64tab", "hopscotch/expr.forms", "hopscotch/types.rules", "internal/bytealg.MaxLen"], apart := false, laid := [("math/bits.deBruijn32tab", laid_math_bits_deBruijn32tab), ("math/bits.deBruijn64tab", laid_math_bits_deBruijn64tab), ("internal/strconv.uint64pow10", laid_internal_strconv_uint64pow10), ("unicode/utf8.acceptRanges", laid_unicode_utf8_acceptRanges), ("strconv.ErrRange", laid_strconv_ErrRange), ("strconv.ErrSyntax", laid_strconv_ErrSyntax), ("hopscotch/lex.signs", laid_hopscotch_lex_signs), ("hopscotch/expr.forms", laid_hopscotch_expr_forms), ("hopscotch/types.rules", laid_hopscotch_types_rules), ("unicode/utf8.first", laid_unicode_utf8_first)] }
def ActParseSaid : Prop := actParseRow.holds Tryz.pinned (OpenSpec.ofChange actParseSpec)

/-- ITS FALSE NEIGHBOUR: 'it returns false'. Refute it at one input. -/
def actParseWrong : ChangeSpec := { name := "actParse", fn := fun _ => fun
  | [d] => { results := [.lit (.bool false)], args := [d] }
  | _ => none }
def ActParseWrongFalsely : Prop := actParseRow.holds Tryz.pinned (OpenSpec.ofChange actParseWrong)

/-- 'hopscotchlaw11.ActChecks': WHATEVER THE INPUT: true; the input reads as it did. -/
def actChecksSpec : ChangeSpec := { name := "actChecks", fn := fun _ => fun
  | [d1, d2, d3, d4] => { results := [.lit (.bool true)], args := [d1, d2, d3, d4] }
  | _ => none }
def actChecksRow : OpenClaim := { program := "ytmmdigeciphglaagreatdoor", sum := "5257ba972a8bcb412d31c2dbb6b76f6cc66926c8cbe829d2ec05a0ef47d396e8", func := "hopscotch/hopscotchlaw11.ActChecks", spec := "actChecks", inPlace := ["internal/bytealg.IndexByteString", "internal/bytealg.IndexString", "internal/reflectlite.TypeOf", "internal/abi.NoEscape", "internal/bytealg.MakeNoZero"], unfollowed := true, recurses := true, named := ["hopscotch/lex.signs", "unicode/utf8.first", "unicode/utf8.acceptRanges", "strconv.ErrRange", "strconv.ErrSyntax", "internal/strconv.uint64pow10", "math/bits.deBruijn32tab", "math/bits.deBruijn64tab", "hopscotch/expr.forms", "hopscotch/types.rules", "internal/bytealg.MaxLen"], apart := false, laid := [("math/bits.deBruijn32tab", laid_math_bits_deBruijn32tab), ("math/bits.deBruijn64tab", laid_math_bits_deBruijn64tab), ("internal/strconv.uint64pow10", laid_internal_strconv_uint64pow10), ("unicode/utf8.acceptRanges", laid_unicode_utf8_acceptRanges), ("strconv.ErrRange", laid_strconv_ErrRange), ("strconv.ErrSyntax", laid_strconv_ErrSyntax), ("hopscotch/lex.signs", laid_hopscotch_lex_signs), ("hopscotch/expr.forms", laid_hopscotch_expr_forms), ("hopscotch/types.rules", laid_hopscotch_types_rules), ("unicode/utf8.first", laid_unicode_utf8_first)] }
def ActChecksSaid : Prop := actChecksRow.holds Tryz.pinned (OpenSpec.ofChange actChecksSpec)

/-- ITS FALSE NEIGHBOUR: 'it returns false'. Refute it at one input. -/
def actChecksWrong : ChangeSpec := { name := "actChecks", fn := fun _ => fun
  | [d1, d2, d3, d4] => { results := [.lit (.bool false)], args := [d1, d2, d3, d4] }
  | _ => none }
def ActChecksWrongFalsely : Prop := actChecksRow.holds Tryz.pinned (OpenSpec.ofChange actChecksWrong)

/-- 'hopscotchlaw11.ActBack': WHATEVER THE INPUT: true; the input reads as it did. -/
def actBackSpec : ChangeSpec := { name := "actBack", fn := fun _ => fun
  | [d1, d2] => { results := [.lit (.bool true)], args := [d1, d2] }
  | _ => none }
def actBackRow : OpenClaim := { program := "ytmmdigeciphglaagreatdoor", sum := "5257ba972a8bcb412d31c2dbb6b76f6cc66926c8cbe829d2ec05a0ef47d396e8", func := "hopscotch/hopscotchlaw11.ActBack", spec := "actBack", inPlace := ["internal/bytealg.IndexByteString", "internal/bytealg.IndexString", "internal/reflectlite.TypeOf", "internal/abi.NoEscape", "internal/bytealg.MakeNoZero"], unfollowed := true, recurses := true, named := ["hopscotch/lex.signs", "unicode/utf8.first", "unicode/utf8.acceptRanges", "strconv.ErrRange", "strconv.ErrSyntax", "internal/strconv.uint64pow10", "math/bits.deBruijn32tab", "math/bits.deBruijn64tab", "hopscotch/expr.forms", "hopscotch/types.rules", "internal/bytealg.MaxLen"], apart := false, laid := [("math/bits.deBruijn32tab", laid_math_bits_deBruijn32tab), ("math/bits.deBruijn64tab", laid_math_bits_deBruijn64tab), ("internal/strconv.uint64pow10", laid_internal_strconv_uint64pow10), ("unicode/utf8.acceptRanges", laid_unicode_utf8_acceptRanges), ("strconv.ErrRange", laid_strconv_ErrRange), ("strconv.ErrSyntax", laid_strconv_ErrSyntax), ("hopscotch/lex.signs", laid_hopscotch_lex_signs), ("hopscotch/expr.forms", laid_hopscotch_expr_forms), ("hopscotch/types.rules", laid_hopscotch_types_rules), ("unicode/utf8.first", laid_unicode_utf8_first)] }
def ActBackSaid : Prop := actBackRow.holds Tryz.pinned (OpenSpec.ofChange actBackSpec)

/-- ITS FALSE NEIGHBOUR: 'it returns false'. Refute it at one input. -/
def actBackWrong : ChangeSpec := { name := "actBack", fn := fun _ => fun
  | [d1, d2] => { results := [.lit (.bool false)], args := [d1, d2] }
  | _ => none }
def ActBackWrongFalsely : Prop := actBackRow.holds Tryz.pinned (OpenSpec.ofChange actBackWrong)

/-- 'hopscotchlaw11.ActJoins': WHATEVER THE INPUT: true; the input reads as it did. -/
def actJoinsSpec : ChangeSpec := { name := "actJoins", fn := fun _ => fun
  | [d1, d2, d3, d4, d5] => { results := [.lit (.bool true)], args := [d1, d2, d3, d4, d5] }
  | _ => none }
def actJoinsRow : OpenClaim := { program := "ytmmdigeciphglaagreatdoor", sum := "5257ba972a8bcb412d31c2dbb6b76f6cc66926c8cbe829d2ec05a0ef47d396e8", func := "hopscotch/hopscotchlaw11.ActJoins", spec := "actJoins", inPlace := ["internal/bytealg.IndexByteString", "internal/bytealg.IndexString", "internal/reflectlite.TypeOf", "internal/abi.NoEscape", "internal/bytealg.MakeNoZero"], unfollowed := true, recurses := true, named := ["hopscotch/lex.signs", "unicode/utf8.first", "unicode/utf8.acceptRanges", "strconv.ErrRange", "strconv.ErrSyntax", "internal/strconv.uint64pow10", "math/bits.deBruijn32tab", "math/bits.deBruijn64tab", "hopscotch/expr.forms", "hopscotch/types.rules", "internal/bytealg.MaxLen"], apart := false, laid := [("math/bits.deBruijn32tab", laid_math_bits_deBruijn32tab), ("math/bits.deBruijn64tab", laid_math_bits_deBruijn64tab), ("internal/strconv.uint64pow10", laid_internal_strconv_uint64pow10), ("unicode/utf8.acceptRanges", laid_unicode_utf8_acceptRanges), ("strconv.ErrRange", laid_strconv_ErrRange), ("strconv.ErrSyntax", laid_strconv_ErrSyntax), ("hopscotch/lex.signs", laid_hopscotch_lex_signs), ("hopscotch/expr.forms", laid_hopscotch_expr_forms), ("hopscotch/types.rules", laid_hopscotch_types_rules), ("unicode/utf8.first", laid_unicode_utf8_first)] }
def ActJoinsSaid : Prop := actJoinsRow.holds Tryz.pinned (OpenSpec.ofChange actJoinsSpec)

/-- ITS FALSE NEIGHBOUR: 'it returns false'. Refute it at one input. -/
def actJoinsWrong : ChangeSpec := { name := "actJoins", fn := fun _ => fun
  | [d1, d2, d3, d4, d5] => { results := [.lit (.bool false)], args := [d1, d2, d3, d4, d5] }
  | _ => none }
def ActJoinsWrongFalsely : Prop := actJoinsRow.holds Tryz.pinned (OpenSpec.ofChange actJoinsWrong)

/-- 'hopscotchlaw12.RunDoes': WHATEVER THE INPUT: true; the input reads as it did. -/
def runDoesSpec : ChangeSpec := { name := "runDoes", fn := fun _ => fun
  | [d1, d2, d3] => { results := [.lit (.bool true)], args := [d1, d2, d3] }
  | _ => none }
def runDoesRow : OpenClaim := { program := "ytmmdigeciphglaagreatdoor", sum := "5257ba972a8bcb412d31c2dbb6b76f6cc66926c8cbe829d2ec05a0ef47d396e8", func := "hopscotch/hopscotchlaw12.RunDoes", spec := "runDoes", inPlace := ["internal/bytealg.IndexByteString", "internal/bytealg.IndexString", "internal/reflectlite.TypeOf"], unfollowed := true, recurses := true, named := ["hopscotch/lex.signs", "unicode/utf8.first", "unicode/utf8.acceptRanges", "strconv.ErrRange", "strconv.ErrSyntax", "internal/strconv.uint64pow10", "math/bits.deBruijn32tab", "math/bits.deBruijn64tab", "hopscotch/expr.forms", "internal/bytealg.MaxLen"], apart := false, laid := [("math/bits.deBruijn32tab", laid_math_bits_deBruijn32tab), ("math/bits.deBruijn64tab", laid_math_bits_deBruijn64tab), ("internal/strconv.uint64pow10", laid_internal_strconv_uint64pow10), ("unicode/utf8.acceptRanges", laid_unicode_utf8_acceptRanges), ("strconv.ErrRange", laid_strconv_ErrRange), ("strconv.ErrSyntax", laid_strconv_ErrSyntax), ("hopscotch/lex.signs", laid_hopscotch_lex_signs), ("hopscotch/expr.forms", laid_hopscotch_expr_forms), ("unicode/utf8.first", laid_unicode_utf8_first)] }
def RunDoesSaid : Prop := runDoesRow.holds Tryz.pinned (OpenSpec.ofChange runDoesSpec)

/-- ITS FALSE NEIGHBOUR: 'it returns false'. Refute it at one input. -/
def runDoesWrong : ChangeSpec := { name := "runDoes", fn := fun _ => fun
  | [d1, d2, d3] => { results := [.lit (.bool false)], args := [d1, d2, d3] }
  | _ => none }
def RunDoesWrongFalsely : Prop := runDoesRow.holds Tryz.pinned (OpenSpec.ofChange runDoesWrong)

/-- 'hopscotchlaw12.RunTexts': WHATEVER THE INPUT: true; the input reads as it did. -/
def runTextsSpec : ChangeSpec := { name := "runTexts", fn := fun _ => fun
  | [d1, d2, d3] => { results := [.lit (.bool true)], args := [d1, d2, d3] }
  | _ => none }
def runTextsRow : OpenClaim := { program := "ytmmdigeciphglaagreatdoor", sum := "5257ba972a8bcb412d31c2dbb6b76f6cc66926c8cbe829d2ec05a0ef47d396e8", func := "hopscotch/hopscotchlaw12.RunTexts", spec := "runTexts", inPlace := ["internal/bytealg.IndexByteString", "internal/bytealg.IndexString", "internal/reflectlite.TypeOf"], unfollowed := true, recurses := true, named := ["hopscotch/lex.signs", "unicode/utf8.first", "unicode/utf8.acceptRanges", "strconv.ErrRange", "strconv.ErrSyntax", "internal/strconv.uint64pow10", "math/bits.deBruijn32tab", "math/bits.deBruijn64tab", "hopscotch/expr.forms", "internal/bytealg.MaxLen"], apart := false, laid := [("math/bits.deBruijn32tab", laid_math_bits_deBruijn32tab), ("math/bits.deBruijn64tab", laid_math_bits_deBruijn64tab), ("internal/strconv.uint64pow10", laid_internal_strconv_uint64pow10), ("unicode/utf8.acceptRanges", laid_unicode_utf8_acceptRanges), ("strconv.ErrRange", laid_strconv_ErrRange), ("strconv.ErrSyntax", laid_strconv_ErrSyntax), ("hopscotch/lex.signs", laid_hopscotch_lex_signs), ("hopscotch/expr.forms", laid_hopscotch_expr_forms), ("unicode/utf8.first", laid_unicode_utf8_first)] }
def RunTextsSaid : Prop := runTextsRow.holds Tryz.pinned (OpenSpec.ofChange runTextsSpec)

/-- ITS FALSE NEIGHBOUR: 'it returns false'. Refute it at one input. -/
def runTextsWrong : ChangeSpec := { name := "runTexts", fn := fun _ => fun
  | [d1, d2, d3] => { results := [.lit (.bool false)], args := [d1, d2, d3] }
  | _ => none }
def RunTextsWrongFalsely : Prop := runTextsRow.holds Tryz.pinned (OpenSpec.ofChange runTextsWrong)

/-- 'hopscotchlaw12.RunTypes': WHATEVER THE INPUT: true; the input reads as it did. -/
def runTypesSpec : ChangeSpec := { name := "runTypes", fn := fun _ => fun
  | [d1, d2, d3, d4] => { results := [.lit (.bool true)], args := [d1, d2, d3, d4] }
  | _ => none }
def runTypesRow : OpenClaim := { program := "ytmmdigeciphglaagreatdoor", sum := "5257ba972a8bcb412d31c2dbb6b76f6cc66926c8cbe829d2ec05a0ef47d396e8", func := "hopscotch/hopscotchlaw12.RunTypes", spec := "runTypes", inPlace := ["internal/bytealg.IndexByteString", "internal/bytealg.IndexString", "internal/reflectlite.TypeOf"], unfollowed := true, recurses := true, named := ["hopscotch/lex.signs", "unicode/utf8.first", "unicode/utf8.acceptRanges", "strconv.ErrRange", "strconv.ErrSyntax", "internal/strconv.uint64pow10", "math/bits.deBruijn32tab", "math/bits.deBruijn64tab", "hopscotch/expr.forms", "hopscotch/types.rules", "internal/bytealg.MaxLen"], apart := false, laid := [("math/bits.deBruijn32tab", laid_math_bits_deBruijn32tab), ("math/bits.deBruijn64tab", laid_math_bits_deBruijn64tab), ("internal/strconv.uint64pow10", laid_internal_strconv_uint64pow10), ("unicode/utf8.acceptRanges", laid_unicode_utf8_acceptRanges), ("strconv.ErrRange", laid_strconv_ErrRange), ("strconv.ErrSyntax", laid_strconv_ErrSyntax), ("hopscotch/lex.signs", laid_hopscotch_lex_signs), ("hopscotch/expr.forms", laid_hopscotch_expr_forms), ("hopscotch/types.rules", laid_hopscotch_types_rules), ("unicode/utf8.first", laid_unicode_utf8_first)] }
def RunTypesSaid : Prop := runTypesRow.holds Tryz.pinned (OpenSpec.ofChange runTypesSpec)

/-- ITS FALSE NEIGHBOUR: 'it returns false'. Refute it at one input. -/
def runTypesWrong : ChangeSpec := { name := "runTypes", fn := fun _ => fun
  | [d1, d2, d3, d4] => { results := [.lit (.bool false)], args := [d1, d2, d3, d4] }
  | _ => none }
def RunTypesWrongFalsely : Prop := runTypesRow.holds Tryz.pinned (OpenSpec.ofChange runTypesWrong)

/-- 'hopscotchlaw12.RunParts': WHATEVER THE INPUT: true; the input reads as it did. -/
def runPartsSpec : ChangeSpec := { name := "runParts", fn := fun _ => fun
  | [d1, d2, d3, d4] => { results := [.lit (.bool true)], args := [d1, d2, d3, d4] }
  | _ => none }
def runPartsRow : OpenClaim := { program := "ytmmdigeciphglaagreatdoor", sum := "5257ba972a8bcb412d31c2dbb6b76f6cc66926c8cbe829d2ec05a0ef47d396e8", func := "hopscotch/hopscotchlaw12.RunParts", spec := "runParts", inPlace := ["internal/bytealg.IndexByteString", "internal/bytealg.IndexString", "internal/reflectlite.TypeOf"], unfollowed := true, recurses := true, named := ["hopscotch/lex.signs", "hopscotch/expr.forms", "unicode/utf8.first", "unicode/utf8.acceptRanges", "strconv.ErrRange", "strconv.ErrSyntax", "internal/strconv.uint64pow10", "math/bits.deBruijn32tab", "math/bits.deBruijn64tab", "internal/bytealg.MaxLen"], apart := false, laid := [("math/bits.deBruijn32tab", laid_math_bits_deBruijn32tab), ("math/bits.deBruijn64tab", laid_math_bits_deBruijn64tab), ("internal/strconv.uint64pow10", laid_internal_strconv_uint64pow10), ("unicode/utf8.acceptRanges", laid_unicode_utf8_acceptRanges), ("strconv.ErrRange", laid_strconv_ErrRange), ("strconv.ErrSyntax", laid_strconv_ErrSyntax), ("hopscotch/lex.signs", laid_hopscotch_lex_signs), ("hopscotch/expr.forms", laid_hopscotch_expr_forms), ("unicode/utf8.first", laid_unicode_utf8_first)] }
def RunPartsSaid : Prop := runPartsRow.holds Tryz.pinned (OpenSpec.ofChange runPartsSpec)

/-- ITS FALSE NEIGHBOUR: 'it returns false'. Refute it at one input. -/
def runPartsWrong : ChangeSpec := { name := "runParts", fn := fun _ => fun
  | [d1, d2, d3, d4] => { results := [.lit (.bool false)], args := [d1, d2, d3, d4] }
  | _ => none }
def RunPartsWrongFalsely : Prop := runPartsRow.holds Tryz.pinned (OpenSpec.ofChange runPartsWrong)

/- THE SECOND FORM. 'bulk': how many values and letters a reading holds, each counted each time it is reached (what is shared counts as often as it is met; a slice's spare places count too). A statement '..UptoSaid' is the law's where the arguments, and the package variables that the reading takes, are together of bulk at most 1048576: NARROWER than '..Said'. Prove '..Said' where nothing that the law and all that it calls make is longer than what came in: it says more and counts as full. Else prove '..UptoSaid'. A law counts once. -/
mutual
def uptoBulk {H : Type} : DataW H → Nat
  | .lit (.string bytes) => bytes.length + 1
  | .lit _ => 1
  | .nil => 1
  | .ptr d => uptoBulk d + 1
  | .slice elems spare => uptoBulkAll elems + uptoBulkAll spare + 1
  | .agg parts => uptoBulkAll parts + 1
  | .iface _ d => uptoBulk d + 1
  | .map entries => uptoBulkEntries entries + 1
  | .held _ => 1
def uptoBulkAll {H : Type} : List (DataW H) → Nat
  | [] => 0
  | d :: r => uptoBulk d + uptoBulkAll r
def uptoBulkEntries {H : Type} : List (Lit × DataW H) → Nat
  | [] => 0
  | x :: r => uptoBulkEntry x + uptoBulkEntries r
def uptoBulkEntry {H : Type} : Lit × DataW H → Nat
  | (.string bytes, d) => bytes.length + uptoBulk d + 1
  | (_, d) => uptoBulk d + 1
 end
def uptoSmall : (H : Type) → List (DataW H) → Bool := fun _ ds => decide (uptoBulkAll ds ≤ 1048576)
def OpenSpec.upto (s : _root_.Go.ChangeSpec) : _root_.Go.OpenSpec := { _root_.Go.OpenSpec.ofChange s with cond := some uptoSmall }

/-- 'hopscotchlaw11.ActParse', WHERE WHAT IT READS IS OF BULK AT MOST 1048576: true; the input reads as it did. -/
def actParseUptoRow : OpenClaim := { program := "ytmmdigeciphglaagreatdoor", sum := "5257ba972a8bcb412d31c2dbb6b76f6cc66926c8cbe829d2ec05a0ef47d396e8", func := "hopscotch/hopscotchlaw11.ActParse", spec := "actParse", inPlace := ["internal/bytealg.IndexByteString", "internal/bytealg.IndexString", "internal/reflectlite.TypeOf", "internal/abi.NoEscape", "internal/bytealg.MakeNoZero"], unfollowed := true, recurses := true, named := ["hopscotch/lex.signs", "unicode/utf8.first", "unicode/utf8.acceptRanges", "strconv.ErrRange", "strconv.ErrSyntax", "internal/strconv.uint64pow10", "math/bits.deBruijn32tab", "math/bits.deBruijn64tab", "hopscotch/expr.forms", "hopscotch/types.rules", "internal/bytealg.MaxLen"], apart := false, laid := [("math/bits.deBruijn32tab", laid_math_bits_deBruijn32tab), ("math/bits.deBruijn64tab", laid_math_bits_deBruijn64tab), ("internal/strconv.uint64pow10", laid_internal_strconv_uint64pow10), ("unicode/utf8.acceptRanges", laid_unicode_utf8_acceptRanges), ("strconv.ErrRange", laid_strconv_ErrRange), ("strconv.ErrSyntax", laid_strconv_ErrSyntax), ("hopscotch/lex.signs", laid_hopscotch_lex_signs), ("hopscotch/expr.forms", laid_hopscotch_expr_forms), ("hopscotch/types.rules", laid_hopscotch_types_rules), ("unicode/utf8.first", laid_unicode_utf8_first)], narrowed := true }
def ActParseUptoSaid : Prop := actParseUptoRow.holds Tryz.pinned (OpenSpec.upto actParseSpec)

/-- 'hopscotchlaw11.ActChecks', WHERE WHAT IT READS IS OF BULK AT MOST 1048576: true; the input reads as it did. -/
def actChecksUptoRow : OpenClaim := { program := "ytmmdigeciphglaagreatdoor", sum := "5257ba972a8bcb412d31c2dbb6b76f6cc66926c8cbe829d2ec05a0ef47d396e8", func := "hopscotch/hopscotchlaw11.ActChecks", spec := "actChecks", inPlace := ["internal/bytealg.IndexByteString", "internal/bytealg.IndexString", "internal/reflectlite.TypeOf", "internal/abi.NoEscape", "internal/bytealg.MakeNoZero"], unfollowed := true, recurses := true, named := ["hopscotch/lex.signs", "unicode/utf8.first", "unicode/utf8.acceptRanges", "strconv.ErrRange", "strconv.ErrSyntax", "internal/strconv.uint64pow10", "math/bits.deBruijn32tab", "math/bits.deBruijn64tab", "hopscotch/expr.forms", "hopscotch/types.rules", "internal/bytealg.MaxLen"], apart := false, laid := [("math/bits.deBruijn32tab", laid_math_bits_deBruijn32tab), ("math/bits.deBruijn64tab", laid_math_bits_deBruijn64tab), ("internal/strconv.uint64pow10", laid_internal_strconv_uint64pow10), ("unicode/utf8.acceptRanges", laid_unicode_utf8_acceptRanges), ("strconv.ErrRange", laid_strconv_ErrRange), ("strconv.ErrSyntax", laid_strconv_ErrSyntax), ("hopscotch/lex.signs", laid_hopscotch_lex_signs), ("hopscotch/expr.forms", laid_hopscotch_expr_forms), ("hopscotch/types.rules", laid_hopscotch_types_rules), ("unicode/utf8.first", laid_unicode_utf8_first)], narrowed := true }
def ActChecksUptoSaid : Prop := actChecksUptoRow.holds Tryz.pinned (OpenSpec.upto actChecksSpec)

/-- 'hopscotchlaw11.ActBack', WHERE WHAT IT READS IS OF BULK AT MOST 1048576: true; the input reads as it did. -/
def actBackUptoRow : OpenClaim := { program := "ytmmdigeciphglaagreatdoor", sum := "5257ba972a8bcb412d31c2dbb6b76f6cc66926c8cbe829d2ec05a0ef47d396e8", func := "hopscotch/hopscotchlaw11.ActBack", spec := "actBack", inPlace := ["internal/bytealg.IndexByteString", "internal/bytealg.IndexString", "internal/reflectlite.TypeOf", "internal/abi.NoEscape", "internal/bytealg.MakeNoZero"], unfollowed := true, recurses := true, named := ["hopscotch/lex.signs", "unicode/utf8.first", "unicode/utf8.acceptRanges", "strconv.ErrRange", "strconv.ErrSyntax", "internal/strconv.uint64pow10", "math/bits.deBruijn32tab", "math/bits.deBruijn64tab", "hopscotch/expr.forms", "hopscotch/types.rules", "internal/bytealg.MaxLen"], apart := false, laid := [("math/bits.deBruijn32tab", laid_math_bits_deBruijn32tab), ("math/bits.deBruijn64tab", laid_math_bits_deBruijn64tab), ("internal/strconv.uint64pow10", laid_internal_strconv_uint64pow10), ("unicode/utf8.acceptRanges", laid_unicode_utf8_acceptRanges), ("strconv.ErrRange", laid_strconv_ErrRange), ("strconv.ErrSyntax", laid_strconv_ErrSyntax), ("hopscotch/lex.signs", laid_hopscotch_lex_signs), ("hopscotch/expr.forms", laid_hopscotch_expr_forms), ("hopscotch/types.rules", laid_hopscotch_types_rules), ("unicode/utf8.first", laid_unicode_utf8_first)], narrowed := true }
def ActBackUptoSaid : Prop := actBackUptoRow.holds Tryz.pinned (OpenSpec.upto actBackSpec)

/-- 'hopscotchlaw11.ActJoins', WHERE WHAT IT READS IS OF BULK AT MOST 1048576: true; the input reads as it did. -/
def actJoinsUptoRow : OpenClaim := { program := "ytmmdigeciphglaagreatdoor", sum := "5257ba972a8bcb412d31c2dbb6b76f6cc66926c8cbe829d2ec05a0ef47d396e8", func := "hopscotch/hopscotchlaw11.ActJoins", spec := "actJoins", inPlace := ["internal/bytealg.IndexByteString", "internal/bytealg.IndexString", "internal/reflectlite.TypeOf", "internal/abi.NoEscape", "internal/bytealg.MakeNoZero"], unfollowed := true, recurses := true, named := ["hopscotch/lex.signs", "unicode/utf8.first", "unicode/utf8.acceptRanges", "strconv.ErrRange", "strconv.ErrSyntax", "internal/strconv.uint64pow10", "math/bits.deBruijn32tab", "math/bits.deBruijn64tab", "hopscotch/expr.forms", "hopscotch/types.rules", "internal/bytealg.MaxLen"], apart := false, laid := [("math/bits.deBruijn32tab", laid_math_bits_deBruijn32tab), ("math/bits.deBruijn64tab", laid_math_bits_deBruijn64tab), ("internal/strconv.uint64pow10", laid_internal_strconv_uint64pow10), ("unicode/utf8.acceptRanges", laid_unicode_utf8_acceptRanges), ("strconv.ErrRange", laid_strconv_ErrRange), ("strconv.ErrSyntax", laid_strconv_ErrSyntax), ("hopscotch/lex.signs", laid_hopscotch_lex_signs), ("hopscotch/expr.forms", laid_hopscotch_expr_forms), ("hopscotch/types.rules", laid_hopscotch_types_rules), ("unicode/utf8.first", laid_unicode_utf8_first)], narrowed := true }
def ActJoinsUptoSaid : Prop := actJoinsUptoRow.holds Tryz.pinned (OpenSpec.upto actJoinsSpec)

/-- 'hopscotchlaw12.RunDoes', WHERE WHAT IT READS IS OF BULK AT MOST 1048576: true; the input reads as it did. -/
def runDoesUptoRow : OpenClaim := { program := "ytmmdigeciphglaagreatdoor", sum := "5257ba972a8bcb412d31c2dbb6b76f6cc66926c8cbe829d2ec05a0ef47d396e8", func := "hopscotch/hopscotchlaw12.RunDoes", spec := "runDoes", inPlace := ["internal/bytealg.IndexByteString", "internal/bytealg.IndexString", "internal/reflectlite.TypeOf"], unfollowed := true, recurses := true, named := ["hopscotch/lex.signs", "unicode/utf8.first", "unicode/utf8.acceptRanges", "strconv.ErrRange", "strconv.ErrSyntax", "internal/strconv.uint64pow10", "math/bits.deBruijn32tab", "math/bits.deBruijn64tab", "hopscotch/expr.forms", "internal/bytealg.MaxLen"], apart := false, laid := [("math/bits.deBruijn32tab", laid_math_bits_deBruijn32tab), ("math/bits.deBruijn64tab", laid_math_bits_deBruijn64tab), ("internal/strconv.uint64pow10", laid_internal_strconv_uint64pow10), ("unicode/utf8.acceptRanges", laid_unicode_utf8_acceptRanges), ("strconv.ErrRange", laid_strconv_ErrRange), ("strconv.ErrSyntax", laid_strconv_ErrSyntax), ("hopscotch/lex.signs", laid_hopscotch_lex_signs), ("hopscotch/expr.forms", laid_hopscotch_expr_forms), ("unicode/utf8.first", laid_unicode_utf8_first)], narrowed := true }
def RunDoesUptoSaid : Prop := runDoesUptoRow.holds Tryz.pinned (OpenSpec.upto runDoesSpec)

/-- 'hopscotchlaw12.RunTexts', WHERE WHAT IT READS IS OF BULK AT MOST 1048576: true; the input reads as it did. -/
def runTextsUptoRow : OpenClaim := { program := "ytmmdigeciphglaagreatdoor", sum := "5257ba972a8bcb412d31c2dbb6b76f6cc66926c8cbe829d2ec05a0ef47d396e8", func := "hopscotch/hopscotchlaw12.RunTexts", spec := "runTexts", inPlace := ["internal/bytealg.IndexByteString", "internal/bytealg.IndexString", "internal/reflectlite.TypeOf"], unfollowed := true, recurses := true, named := ["hopscotch/lex.signs", "unicode/utf8.first", "unicode/utf8.acceptRanges", "strconv.ErrRange", "strconv.ErrSyntax", "internal/strconv.uint64pow10", "math/bits.deBruijn32tab", "math/bits.deBruijn64tab", "hopscotch/expr.forms", "internal/bytealg.MaxLen"], apart := false, laid := [("math/bits.deBruijn32tab", laid_math_bits_deBruijn32tab), ("math/bits.deBruijn64tab", laid_math_bits_deBruijn64tab), ("internal/strconv.uint64pow10", laid_internal_strconv_uint64pow10), ("unicode/utf8.acceptRanges", laid_unicode_utf8_acceptRanges), ("strconv.ErrRange", laid_strconv_ErrRange), ("strconv.ErrSyntax", laid_strconv_ErrSyntax), ("hopscotch/lex.signs", laid_hopscotch_lex_signs), ("hopscotch/expr.forms", laid_hopscotch_expr_forms), ("unicode/utf8.first", laid_unicode_utf8_first)], narrowed := true }
def RunTextsUptoSaid : Prop := runTextsUptoRow.holds Tryz.pinned (OpenSpec.upto runTextsSpec)

/-- 'hopscotchlaw12.RunTypes', WHERE WHAT IT READS IS OF BULK AT MOST 1048576: true; the input reads as it did. -/
def runTypesUptoRow : OpenClaim := { program := "ytmmdigeciphglaagreatdoor", sum := "5257ba972a8bcb412d31c2dbb6b76f6cc66926c8cbe829d2ec05a0ef47d396e8", func := "hopscotch/hopscotchlaw12.RunTypes", spec := "runTypes", inPlace := ["internal/bytealg.IndexByteString", "internal/bytealg.IndexString", "internal/reflectlite.TypeOf"], unfollowed := true, recurses := true, named := ["hopscotch/lex.signs", "unicode/utf8.first", "unicode/utf8.acceptRanges", "strconv.ErrRange", "strconv.ErrSyntax", "internal/strconv.uint64pow10", "math/bits.deBruijn32tab", "math/bits.deBruijn64tab", "hopscotch/expr.forms", "hopscotch/types.rules", "internal/bytealg.MaxLen"], apart := false, laid := [("math/bits.deBruijn32tab", laid_math_bits_deBruijn32tab), ("math/bits.deBruijn64tab", laid_math_bits_deBruijn64tab), ("internal/strconv.uint64pow10", laid_internal_strconv_uint64pow10), ("unicode/utf8.acceptRanges", laid_unicode_utf8_acceptRanges), ("strconv.ErrRange", laid_strconv_ErrRange), ("strconv.ErrSyntax", laid_strconv_ErrSyntax), ("hopscotch/lex.signs", laid_hopscotch_lex_signs), ("hopscotch/expr.forms", laid_hopscotch_expr_forms), ("hopscotch/types.rules", laid_hopscotch_types_rules), ("unicode/utf8.first", laid_unicode_utf8_first)], narrowed := true }
def RunTypesUptoSaid : Prop := runTypesUptoRow.holds Tryz.pinned (OpenSpec.upto runTypesSpec)

/-- 'hopscotchlaw12.RunParts', WHERE WHAT IT READS IS OF BULK AT MOST 1048576: true; the input reads as it did. -/
def runPartsUptoRow : OpenClaim := { program := "ytmmdigeciphglaagreatdoor", sum := "5257ba972a8bcb412d31c2dbb6b76f6cc66926c8cbe829d2ec05a0ef47d396e8", func := "hopscotch/hopscotchlaw12.RunParts", spec := "runParts", inPlace := ["internal/bytealg.IndexByteString", "internal/bytealg.IndexString", "internal/reflectlite.TypeOf"], unfollowed := true, recurses := true, named := ["hopscotch/lex.signs", "hopscotch/expr.forms", "unicode/utf8.first", "unicode/utf8.acceptRanges", "strconv.ErrRange", "strconv.ErrSyntax", "internal/strconv.uint64pow10", "math/bits.deBruijn32tab", "math/bits.deBruijn64tab", "internal/bytealg.MaxLen"], apart := false, laid := [("math/bits.deBruijn32tab", laid_math_bits_deBruijn32tab), ("math/bits.deBruijn64tab", laid_math_bits_deBruijn64tab), ("internal/strconv.uint64pow10", laid_internal_strconv_uint64pow10), ("unicode/utf8.acceptRanges", laid_unicode_utf8_acceptRanges), ("strconv.ErrRange", laid_strconv_ErrRange), ("strconv.ErrSyntax", laid_strconv_ErrSyntax), ("hopscotch/lex.signs", laid_hopscotch_lex_signs), ("hopscotch/expr.forms", laid_hopscotch_expr_forms), ("unicode/utf8.first", laid_unicode_utf8_first)], narrowed := true }
def RunPartsUptoSaid : Prop := runPartsUptoRow.holds Tryz.pinned (OpenSpec.upto runPartsSpec)

end Rows
end Go.Proofs.YtmmdigeciphglaaGreatDoor
