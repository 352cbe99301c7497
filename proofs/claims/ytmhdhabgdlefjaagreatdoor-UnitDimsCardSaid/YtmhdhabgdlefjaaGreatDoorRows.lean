/-
  NARROWER THAN 'FOR EVERY INPUT', by the rows' own cells (each row's printed sentence says how): UnitTells: laid · UnitProducts: laid · UnitGroup: laid · UnitDims: laid.
  DERIVED. THE GIVEN ROWS OF THIS SEAT. 4 by the template 'for every input the law returns true; each argument reads behind the call as it read before'; 0 by the template 'total and deterministic' (their statements: YtmhdhabgdlefjaaGreatDoorTotals.lean).
  GIVEN WITH THE SEED: the statements are not yours to turn. If you find one false, say at which input.
  Laid BY PROGRAM, IN A SANDBOX (cutbox-rows.mjs): the forced cells as the released guide's own fill.sh prints them over the translation d854301e144fbd84… (all of the seat's roots in one cut). By AI agents, Wed Nov 11 2026. No macro, syntax, notation, axiom, sorry.
-/
import Derived.Test.YtmhdhabgdlefjaaGreatDoorChecked
import GoSem.Claim
import GoSem.ClaimJoined
import GoSem.ClaimMapViews
import Derived.JoinedTies
import Derived.KernelRfl
namespace Go.Proofs.YtmhdhabgdlefjaaGreatDoor
/- THE CELL 'sum', in the pinned program and in every row, IS THE sha256 OF THE DUMP (.gsa) THAT YtmhdhabgdlefjaaGreatDoorProg.lean LOADS. Nothing in Lean hashes anything: it is a label: what it is worth is what the hold of that sum in a sandbox is worth. -/
noncomputable def Tryz.pinned : Pinned := { name := "ytmhdhabgdlefjaagreatdoor", sum := "d854301e144fbd84209efa37a9d661790a6bf9c6fe554b2a4ed5ca9aa666ac22", checked := Tryz.checked }
namespace Rows
def none {H : Type} : Left H := { results := [], args := [] }

/- WHAT THE LISTED PACKAGE-LEVEL VARIABLES READ AS WHEN THE CALL BEGINS. Each datum BY PROGRAM (the guide's laid-datum.mjs) off the statement by which the dump's own 'gosem.cut.vars' lays the variable. In a bare row this is a premise. The card (YtmhdhabgdlefjaaGreatDoorCards.lean) ties it to the program's text. -/
def laid_math_bits_deBruijn32tab {H : Type} : DataW H := .agg [.lit (.int .u8 0), .lit (.int .u8 1), .lit (.int .u8 28), .lit (.int .u8 2), .lit (.int .u8 29), .lit (.int .u8 14), .lit (.int .u8 24), .lit (.int .u8 3), .lit (.int .u8 30), .lit (.int .u8 22), .lit (.int .u8 20), .lit (.int .u8 15), .lit (.int .u8 25), .lit (.int .u8 17), .lit (.int .u8 4), .lit (.int .u8 8), .lit (.int .u8 31), .lit (.int .u8 27), .lit (.int .u8 13), .lit (.int .u8 23), .lit (.int .u8 21), .lit (.int .u8 19), .lit (.int .u8 16), .lit (.int .u8 7), .lit (.int .u8 26), .lit (.int .u8 12), .lit (.int .u8 18), .lit (.int .u8 6), .lit (.int .u8 11), .lit (.int .u8 5), .lit (.int .u8 10), .lit (.int .u8 9)]
def laid_math_bits_deBruijn64tab {H : Type} : DataW H := .agg [.lit (.int .u8 0), .lit (.int .u8 1), .lit (.int .u8 56), .lit (.int .u8 2), .lit (.int .u8 57), .lit (.int .u8 49), .lit (.int .u8 28), .lit (.int .u8 3), .lit (.int .u8 61), .lit (.int .u8 58), .lit (.int .u8 42), .lit (.int .u8 50), .lit (.int .u8 38), .lit (.int .u8 29), .lit (.int .u8 17), .lit (.int .u8 4), .lit (.int .u8 62), .lit (.int .u8 47), .lit (.int .u8 59), .lit (.int .u8 36), .lit (.int .u8 45), .lit (.int .u8 43), .lit (.int .u8 51), .lit (.int .u8 22), .lit (.int .u8 53), .lit (.int .u8 39), .lit (.int .u8 33), .lit (.int .u8 30), .lit (.int .u8 24), .lit (.int .u8 18), .lit (.int .u8 12), .lit (.int .u8 5), .lit (.int .u8 63), .lit (.int .u8 55), .lit (.int .u8 48), .lit (.int .u8 27), .lit (.int .u8 60), .lit (.int .u8 41), .lit (.int .u8 37), .lit (.int .u8 16), .lit (.int .u8 46), .lit (.int .u8 35), .lit (.int .u8 44), .lit (.int .u8 21), .lit (.int .u8 52), .lit (.int .u8 32), .lit (.int .u8 23), .lit (.int .u8 11), .lit (.int .u8 54), .lit (.int .u8 26), .lit (.int .u8 40), .lit (.int .u8 15), .lit (.int .u8 34), .lit (.int .u8 20), .lit (.int .u8 31), .lit (.int .u8 10), .lit (.int .u8 25), .lit (.int .u8 14), .lit (.int .u8 19), .lit (.int .u8 9), .lit (.int .u8 13), .lit (.int .u8 8), .lit (.int .u8 7), .lit (.int .u8 6)]
def laid_internal_strconv_uint64pow10 {H : Type} : DataW H := .agg [.lit (.int .u64 1), .lit (.int .u64 10), .lit (.int .u64 100), .lit (.int .u64 1000), .lit (.int .u64 10000), .lit (.int .u64 100000), .lit (.int .u64 1000000), .lit (.int .u64 10000000), .lit (.int .u64 100000000), .lit (.int .u64 1000000000), .lit (.int .u64 10000000000), .lit (.int .u64 100000000000), .lit (.int .u64 1000000000000), .lit (.int .u64 10000000000000), .lit (.int .u64 100000000000000), .lit (.int .u64 1000000000000000), .lit (.int .u64 10000000000000000), .lit (.int .u64 100000000000000000), .lit (.int .u64 1000000000000000000), .lit (.int .u64 10000000000000000000)]
def laid_kitbag_dim_symbols {H : Type} : DataW H := .agg [.lit (.string [103]), .lit (.string [109]), .lit (.string [115]), .lit (.string [74]), .lit (.string [99, 101, 110, 116]), .lit (.string [112, 99])]
def laid_kitbag_unit_symbols {H : Type} : DataW H := .agg [.agg [.lit (.string [103]), .lit (.int .i64 0), .lit (.int .i64 1), .lit (.int .i64 1), .lit (.int .i64 1), .lit (.bool true)], .agg [.lit (.string [116]), .lit (.int .i64 0), .lit (.int .i64 1), .lit (.int .i64 1000000), .lit (.int .i64 1), .lit (.bool false)], .agg [.lit (.string [109]), .lit (.int .i64 1), .lit (.int .i64 1), .lit (.int .i64 1), .lit (.int .i64 1), .lit (.bool true)], .agg [.lit (.string [108]), .lit (.int .i64 1), .lit (.int .i64 3), .lit (.int .i64 1), .lit (.int .i64 1000), .lit (.bool true)], .agg [.lit (.string [115]), .lit (.int .i64 2), .lit (.int .i64 1), .lit (.int .i64 1), .lit (.int .i64 1), .lit (.bool true)], .agg [.lit (.string [104]), .lit (.int .i64 2), .lit (.int .i64 1), .lit (.int .i64 3600), .lit (.int .i64 1), .lit (.bool false)], .agg [.lit (.string [100]), .lit (.int .i64 2), .lit (.int .i64 1), .lit (.int .i64 86400), .lit (.int .i64 1), .lit (.bool false)], .agg [.lit (.string [74]), .lit (.int .i64 3), .lit (.int .i64 1), .lit (.int .i64 1), .lit (.int .i64 1), .lit (.bool true)], .agg [.lit (.string [87, 104]), .lit (.int .i64 3), .lit (.int .i64 1), .lit (.int .i64 3600), .lit (.int .i64 1), .lit (.bool true)], .agg [.lit (.string [99, 101, 110, 116]), .lit (.int .i64 4), .lit (.int .i64 1), .lit (.int .i64 1), .lit (.int .i64 1), .lit (.bool false)], .agg [.lit (.string [101, 117, 114]), .lit (.int .i64 4), .lit (.int .i64 1), .lit (.int .i64 100), .lit (.int .i64 1), .lit (.bool false)], .agg [.lit (.string [112, 99]), .lit (.int .i64 5), .lit (.int .i64 1), .lit (.int .i64 1), .lit (.int .i64 1), .lit (.bool false)]]

/-- 'kitbaglaw09.UnitTells': WHATEVER THE INPUT: true; the input reads as it did. -/
def unitTellsSpec : ChangeSpec := { name := "unitTells", fn := fun _ => fun
  | [d1, d2, d3, d4] => { results := [.lit (.bool true)], args := [d1, d2, d3, d4] }
  | _ => none }
def unitTellsRow : OpenClaim := { program := "ytmhdhabgdlefjaagreatdoor", sum := "d854301e144fbd84209efa37a9d661790a6bf9c6fe554b2a4ed5ca9aa666ac22", func := "kitbag/kitbaglaw09.UnitTells", spec := "unitTells", inPlace := ["internal/abi.NoEscape", "internal/bytealg.MakeNoZero"], unfollowed := true, recurses := true, named := ["kitbag/unit.symbols", "kitbag/dim.symbols", "internal/strconv.uint64pow10", "math/bits.deBruijn32tab", "math/bits.deBruijn64tab"], apart := false, laid := [("math/bits.deBruijn32tab", laid_math_bits_deBruijn32tab), ("math/bits.deBruijn64tab", laid_math_bits_deBruijn64tab), ("internal/strconv.uint64pow10", laid_internal_strconv_uint64pow10), ("kitbag/dim.symbols", laid_kitbag_dim_symbols), ("kitbag/unit.symbols", laid_kitbag_unit_symbols)] }
def UnitTellsSaid : Prop := unitTellsRow.holds Tryz.pinned (OpenSpec.ofChange unitTellsSpec)

/-- ITS FALSE NEIGHBOUR: 'it returns false'. Refute it at one input. -/
def unitTellsWrong : ChangeSpec := { name := "unitTells", fn := fun _ => fun
  | [d1, d2, d3, d4] => { results := [.lit (.bool false)], args := [d1, d2, d3, d4] }
  | _ => none }
def UnitTellsWrongFalsely : Prop := unitTellsRow.holds Tryz.pinned (OpenSpec.ofChange unitTellsWrong)

/-- 'kitbaglaw09.UnitProducts': WHATEVER THE INPUT: true; the input reads as it did. -/
def unitProductsSpec : ChangeSpec := { name := "unitProducts", fn := fun _ => fun
  | [d1, d2] => { results := [.lit (.bool true)], args := [d1, d2] }
  | _ => none }
def unitProductsRow : OpenClaim := { program := "ytmhdhabgdlefjaagreatdoor", sum := "d854301e144fbd84209efa37a9d661790a6bf9c6fe554b2a4ed5ca9aa666ac22", func := "kitbag/kitbaglaw09.UnitProducts", spec := "unitProducts", inPlace := ["internal/abi.NoEscape", "internal/bytealg.MakeNoZero"], unfollowed := true, recurses := true, named := ["kitbag/unit.symbols", "kitbag/dim.symbols", "internal/strconv.uint64pow10", "math/bits.deBruijn32tab", "math/bits.deBruijn64tab"], apart := false, laid := [("math/bits.deBruijn32tab", laid_math_bits_deBruijn32tab), ("math/bits.deBruijn64tab", laid_math_bits_deBruijn64tab), ("internal/strconv.uint64pow10", laid_internal_strconv_uint64pow10), ("kitbag/dim.symbols", laid_kitbag_dim_symbols), ("kitbag/unit.symbols", laid_kitbag_unit_symbols)] }
def UnitProductsSaid : Prop := unitProductsRow.holds Tryz.pinned (OpenSpec.ofChange unitProductsSpec)

/-- ITS FALSE NEIGHBOUR: 'it returns false'. Refute it at one input. -/
def unitProductsWrong : ChangeSpec := { name := "unitProducts", fn := fun _ => fun
  | [d1, d2] => { results := [.lit (.bool false)], args := [d1, d2] }
  | _ => none }
def UnitProductsWrongFalsely : Prop := unitProductsRow.holds Tryz.pinned (OpenSpec.ofChange unitProductsWrong)

/-- 'kitbaglaw09.UnitGroup': WHATEVER THE INPUT: true; the input reads as it did. -/
def unitGroupSpec : ChangeSpec := { name := "unitGroup", fn := fun _ => fun
  | [d1, d2, d3, d4] => { results := [.lit (.bool true)], args := [d1, d2, d3, d4] }
  | _ => none }
def unitGroupRow : OpenClaim := { program := "ytmhdhabgdlefjaagreatdoor", sum := "d854301e144fbd84209efa37a9d661790a6bf9c6fe554b2a4ed5ca9aa666ac22", func := "kitbag/kitbaglaw09.UnitGroup", spec := "unitGroup", inPlace := ["internal/abi.NoEscape", "internal/bytealg.MakeNoZero"], unfollowed := true, recurses := true, named := ["kitbag/unit.symbols", "kitbag/dim.symbols", "internal/strconv.uint64pow10", "math/bits.deBruijn32tab", "math/bits.deBruijn64tab"], apart := false, laid := [("math/bits.deBruijn32tab", laid_math_bits_deBruijn32tab), ("math/bits.deBruijn64tab", laid_math_bits_deBruijn64tab), ("internal/strconv.uint64pow10", laid_internal_strconv_uint64pow10), ("kitbag/dim.symbols", laid_kitbag_dim_symbols), ("kitbag/unit.symbols", laid_kitbag_unit_symbols)] }
def UnitGroupSaid : Prop := unitGroupRow.holds Tryz.pinned (OpenSpec.ofChange unitGroupSpec)

/-- ITS FALSE NEIGHBOUR: 'it returns false'. Refute it at one input. -/
def unitGroupWrong : ChangeSpec := { name := "unitGroup", fn := fun _ => fun
  | [d1, d2, d3, d4] => { results := [.lit (.bool false)], args := [d1, d2, d3, d4] }
  | _ => none }
def UnitGroupWrongFalsely : Prop := unitGroupRow.holds Tryz.pinned (OpenSpec.ofChange unitGroupWrong)

/-- 'kitbaglaw09.UnitDims': WHATEVER THE INPUT: true; the input reads as it did. -/
def unitDimsSpec : ChangeSpec := { name := "unitDims", fn := fun _ => fun
  | [d1, d2, d3] => { results := [.lit (.bool true)], args := [d1, d2, d3] }
  | _ => none }
def unitDimsRow : OpenClaim := { program := "ytmhdhabgdlefjaagreatdoor", sum := "d854301e144fbd84209efa37a9d661790a6bf9c6fe554b2a4ed5ca9aa666ac22", func := "kitbag/kitbaglaw09.UnitDims", spec := "unitDims", inPlace := ["internal/abi.NoEscape", "internal/bytealg.MakeNoZero"], unfollowed := true, recurses := true, named := ["kitbag/unit.symbols", "kitbag/dim.symbols", "internal/strconv.uint64pow10", "math/bits.deBruijn32tab", "math/bits.deBruijn64tab"], apart := false, laid := [("math/bits.deBruijn32tab", laid_math_bits_deBruijn32tab), ("math/bits.deBruijn64tab", laid_math_bits_deBruijn64tab), ("internal/strconv.uint64pow10", laid_internal_strconv_uint64pow10), ("kitbag/dim.symbols", laid_kitbag_dim_symbols), ("kitbag/unit.symbols", laid_kitbag_unit_symbols)] }
def UnitDimsSaid : Prop := unitDimsRow.holds Tryz.pinned (OpenSpec.ofChange unitDimsSpec)

/-- ITS FALSE NEIGHBOUR: 'it returns false'. Refute it at one input. -/
def unitDimsWrong : ChangeSpec := { name := "unitDims", fn := fun _ => fun
  | [d1, d2, d3] => { results := [.lit (.bool false)], args := [d1, d2, d3] }
  | _ => none }
def UnitDimsWrongFalsely : Prop := unitDimsRow.holds Tryz.pinned (OpenSpec.ofChange unitDimsWrong)

/- THE SECOND FORM. 'bulk': how many values and letters a reading holds, each counted each time it is reached (what is shared counts as often as it is met; a slice's spare places count too). A statement '..UptoSaid' is the law's where the arguments, and the package variables that the reading takes, are together of bulk at most 1048576: NARROWER than '..Said'. Prove '..Said' where nothing that the law and all that it calls make is longer than what came in: it says more and counts as full. Else prove '..UptoSaid'. A law counts once. -/
mutual
def uptoBulk {H : Type} : DataW H → Nat
  | .lit (.string bytes) => bytes.length + 1
  | .lit _ => 1
  | .nil => 1
  | .ptr d => uptoBulk d + 1
  | .slice elems spare => uptoBulkAll elems + uptoBulkAll spare + 1
  | .agg parts => uptoBulkAll parts + 1
  | .iface _ d => uptoBulk d + 1
  | .map entries => uptoBulkEntries entries + 1
  | .held _ => 1
def uptoBulkAll {H : Type} : List (DataW H) → Nat
  | [] => 0
  | d :: r => uptoBulk d + uptoBulkAll r
def uptoBulkEntries {H : Type} : List (Lit × DataW H) → Nat
  | [] => 0
  | x :: r => uptoBulkEntry x + uptoBulkEntries r
def uptoBulkEntry {H : Type} : Lit × DataW H → Nat
  | (.string bytes, d) => bytes.length + uptoBulk d + 1
  | (_, d) => uptoBulk d + 1
 end
def uptoSmall : (H : Type) → List (DataW H) → Bool := fun _ ds => decide (uptoBulkAll ds ≤ 1048576)
def OpenSpec.upto (s : _root_.Go.ChangeSpec) : _root_.Go.OpenSpec := { _root_.Go.OpenSpec.ofChange s with cond := some uptoSmall }

/-- 'kitbaglaw09.UnitTells', WHERE WHAT IT READS IS OF BULK AT MOST 1048576: true; the input reads as it did. -/
def unitTellsUptoRow : OpenClaim := { program := "ytmhdhabgdlefjaagreatdoor", sum := "d854301e144fbd84209efa37a9d661790a6bf9c6fe554b2a4ed5ca9aa666ac22", func := "kitbag/kitbaglaw09.UnitTells", spec := "unitTells", inPlace := ["internal/abi.NoEscape", "internal/bytealg.MakeNoZero"], unfollowed := true, recurses := true, named := ["kitbag/unit.symbols", "kitbag/dim.symbols", "internal/strconv.uint64pow10", "math/bits.deBruijn32tab", "math/bits.deBruijn64tab"], apart := false, laid := [("math/bits.deBruijn32tab", laid_math_bits_deBruijn32tab), ("math/bits.deBruijn64tab", laid_math_bits_deBruijn64tab), ("internal/strconv.uint64pow10", laid_internal_strconv_uint64pow10), ("kitbag/dim.symbols", laid_kitbag_dim_symbols), ("kitbag/unit.symbols", laid_kitbag_unit_symbols)], narrowed := true }
def UnitTellsUptoSaid : Prop := unitTellsUptoRow.holds Tryz.pinned (OpenSpec.upto unitTellsSpec)

/-- 'kitbaglaw09.UnitProducts', WHERE WHAT IT READS IS OF BULK AT MOST 1048576: true; the input reads as it did. -/
def unitProductsUptoRow : OpenClaim := { program := "ytmhdhabgdlefjaagreatdoor", sum := "d854301e144fbd84209efa37a9d661790a6bf9c6fe554b2a4ed5ca9aa666ac22", func := "kitbag/kitbaglaw09.UnitProducts", spec := "unitProducts", inPlace := ["internal/abi.NoEscape", "internal/bytealg.MakeNoZero"], unfollowed := true, recurses := true, named := ["kitbag/unit.symbols", "kitbag/dim.symbols", "internal/strconv.uint64pow10", "math/bits.deBruijn32tab", "math/bits.deBruijn64tab"], apart := false, laid := [("math/bits.deBruijn32tab", laid_math_bits_deBruijn32tab), ("math/bits.deBruijn64tab", laid_math_bits_deBruijn64tab), ("internal/strconv.uint64pow10", laid_internal_strconv_uint64pow10), ("kitbag/dim.symbols", laid_kitbag_dim_symbols), ("kitbag/unit.symbols", laid_kitbag_unit_symbols)], narrowed := true }
def UnitProductsUptoSaid : Prop := unitProductsUptoRow.holds Tryz.pinned (OpenSpec.upto unitProductsSpec)

/-- 'kitbaglaw09.UnitGroup', WHERE WHAT IT READS IS OF BULK AT MOST 1048576: true; the input reads as it did. -/
def unitGroupUptoRow : OpenClaim := { program := "ytmhdhabgdlefjaagreatdoor", sum := "d854301e144fbd84209efa37a9d661790a6bf9c6fe554b2a4ed5ca9aa666ac22", func := "kitbag/kitbaglaw09.UnitGroup", spec := "unitGroup", inPlace := ["internal/abi.NoEscape", "internal/bytealg.MakeNoZero"], unfollowed := true, recurses := true, named := ["kitbag/unit.symbols", "kitbag/dim.symbols", "internal/strconv.uint64pow10", "math/bits.deBruijn32tab", "math/bits.deBruijn64tab"], apart := false, laid := [("math/bits.deBruijn32tab", laid_math_bits_deBruijn32tab), ("math/bits.deBruijn64tab", laid_math_bits_deBruijn64tab), ("internal/strconv.uint64pow10", laid_internal_strconv_uint64pow10), ("kitbag/dim.symbols", laid_kitbag_dim_symbols), ("kitbag/unit.symbols", laid_kitbag_unit_symbols)], narrowed := true }
def UnitGroupUptoSaid : Prop := unitGroupUptoRow.holds Tryz.pinned (OpenSpec.upto unitGroupSpec)

/-- 'kitbaglaw09.UnitDims', WHERE WHAT IT READS IS OF BULK AT MOST 1048576: true; the input reads as it did. -/
def unitDimsUptoRow : OpenClaim := { program := "ytmhdhabgdlefjaagreatdoor", sum := "d854301e144fbd84209efa37a9d661790a6bf9c6fe554b2a4ed5ca9aa666ac22", func := "kitbag/kitbaglaw09.UnitDims", spec := "unitDims", inPlace := ["internal/abi.NoEscape", "internal/bytealg.MakeNoZero"], unfollowed := true, recurses := true, named := ["kitbag/unit.symbols", "kitbag/dim.symbols", "internal/strconv.uint64pow10", "math/bits.deBruijn32tab", "math/bits.deBruijn64tab"], apart := false, laid := [("math/bits.deBruijn32tab", laid_math_bits_deBruijn32tab), ("math/bits.deBruijn64tab", laid_math_bits_deBruijn64tab), ("internal/strconv.uint64pow10", laid_internal_strconv_uint64pow10), ("kitbag/dim.symbols", laid_kitbag_dim_symbols), ("kitbag/unit.symbols", laid_kitbag_unit_symbols)], narrowed := true }
def UnitDimsUptoSaid : Prop := unitDimsUptoRow.holds Tryz.pinned (OpenSpec.upto unitDimsSpec)

end Rows
end Go.Proofs.YtmhdhabgdlefjaaGreatDoor
