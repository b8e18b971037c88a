/-
  NARROWER THAN 'FOR EVERY INPUT', by the rows' own cells (each row's printed sentence says how): FnDurable: ifaces, laid · FnExtents: ifaces, laid · FnExactRunExtent: ifaces, laid.
  DERIVED. THE GIVEN ROWS OF THIS SEAT. 3 by the template 'for every input the law returns true; each argument reads behind the call as it read before'; 0 by the template 'total and deterministic' (their statements: YtngkiokibldfjaaGreatDoorTotals.lean).
  GIVEN WITH THE SEED: the statements are not yours to turn. If you find one false, say at which input.
  Laid BY PROGRAM, IN A SANDBOX (cutbox-rows.mjs): the forced cells as the released guide's own fill.sh prints them over the translation 6bd23650c83990f5… (all of the seat's roots in one cut). By AI agents, Wed Nov 11 2026. No macro, syntax, notation, axiom, sorry.
-/
import Derived.Test.YtngkiokibldfjaaGreatDoorChecked
import GoSem.Claim
import GoSem.ClaimJoined
import GoSem.ClaimMapViews
import Derived.JoinedTies
import Derived.KernelRfl
namespace Go.Proofs.YtngkiokibldfjaaGreatDoor
/- THE CELL 'sum', in the pinned program and in every row, IS THE sha256 OF THE DUMP (.gsa) THAT YtngkiokibldfjaaGreatDoorProg.lean LOADS. Nothing in Lean hashes anything: it is a label: what it is worth is what the hold of that sum in a sandbox is worth. -/
noncomputable def Tryz.pinned : Pinned := { name := "ytngkiokibldfjaagreatdoor", sum := "6bd23650c83990f52308ee34bc8c0bca70e7f8023dd6fa393fc2c597c516181e", checked := Tryz.checked }
namespace Rows
def none {H : Type} : Left H := { results := [], args := [] }

/- WHAT THE LISTED PACKAGE-LEVEL VARIABLES READ AS WHEN THE CALL BEGINS. Each datum BY PROGRAM (the guide's laid-datum.mjs) off the statement by which the dump's own 'gosem.cut.vars' lays the variable. In a bare row this is a premise. The card (YtngkiokibldfjaaGreatDoorCards.lean) ties it to the program's text. -/
def laid_math_bits_deBruijn32tab {H : Type} : DataW H := .agg [.lit (.int .u8 0), .lit (.int .u8 1), .lit (.int .u8 28), .lit (.int .u8 2), .lit (.int .u8 29), .lit (.int .u8 14), .lit (.int .u8 24), .lit (.int .u8 3), .lit (.int .u8 30), .lit (.int .u8 22), .lit (.int .u8 20), .lit (.int .u8 15), .lit (.int .u8 25), .lit (.int .u8 17), .lit (.int .u8 4), .lit (.int .u8 8), .lit (.int .u8 31), .lit (.int .u8 27), .lit (.int .u8 13), .lit (.int .u8 23), .lit (.int .u8 21), .lit (.int .u8 19), .lit (.int .u8 16), .lit (.int .u8 7), .lit (.int .u8 26), .lit (.int .u8 12), .lit (.int .u8 18), .lit (.int .u8 6), .lit (.int .u8 11), .lit (.int .u8 5), .lit (.int .u8 10), .lit (.int .u8 9)]
def laid_math_bits_deBruijn64tab {H : Type} : DataW H := .agg [.lit (.int .u8 0), .lit (.int .u8 1), .lit (.int .u8 56), .lit (.int .u8 2), .lit (.int .u8 57), .lit (.int .u8 49), .lit (.int .u8 28), .lit (.int .u8 3), .lit (.int .u8 61), .lit (.int .u8 58), .lit (.int .u8 42), .lit (.int .u8 50), .lit (.int .u8 38), .lit (.int .u8 29), .lit (.int .u8 17), .lit (.int .u8 4), .lit (.int .u8 62), .lit (.int .u8 47), .lit (.int .u8 59), .lit (.int .u8 36), .lit (.int .u8 45), .lit (.int .u8 43), .lit (.int .u8 51), .lit (.int .u8 22), .lit (.int .u8 53), .lit (.int .u8 39), .lit (.int .u8 33), .lit (.int .u8 30), .lit (.int .u8 24), .lit (.int .u8 18), .lit (.int .u8 12), .lit (.int .u8 5), .lit (.int .u8 63), .lit (.int .u8 55), .lit (.int .u8 48), .lit (.int .u8 27), .lit (.int .u8 60), .lit (.int .u8 41), .lit (.int .u8 37), .lit (.int .u8 16), .lit (.int .u8 46), .lit (.int .u8 35), .lit (.int .u8 44), .lit (.int .u8 21), .lit (.int .u8 52), .lit (.int .u8 32), .lit (.int .u8 23), .lit (.int .u8 11), .lit (.int .u8 54), .lit (.int .u8 26), .lit (.int .u8 40), .lit (.int .u8 15), .lit (.int .u8 34), .lit (.int .u8 20), .lit (.int .u8 31), .lit (.int .u8 10), .lit (.int .u8 25), .lit (.int .u8 14), .lit (.int .u8 19), .lit (.int .u8 9), .lit (.int .u8 13), .lit (.int .u8 8), .lit (.int .u8 7), .lit (.int .u8 6)]
def laid_internal_strconv_uint64pow10 {H : Type} : DataW H := .agg [.lit (.int .u64 1), .lit (.int .u64 10), .lit (.int .u64 100), .lit (.int .u64 1000), .lit (.int .u64 10000), .lit (.int .u64 100000), .lit (.int .u64 1000000), .lit (.int .u64 10000000), .lit (.int .u64 100000000), .lit (.int .u64 1000000000), .lit (.int .u64 10000000000), .lit (.int .u64 100000000000), .lit (.int .u64 1000000000000), .lit (.int .u64 10000000000000), .lit (.int .u64 100000000000000), .lit (.int .u64 1000000000000000), .lit (.int .u64 10000000000000000), .lit (.int .u64 100000000000000000), .lit (.int .u64 1000000000000000000), .lit (.int .u64 10000000000000000000)]
def laid_loop_example_g00020_impl_errNoMark {H : Type} : DataW H := .iface "*errors.errorString" (.ptr (.agg [.lit (.string [110, 111, 32, 109, 97, 114, 107, 32, 115, 116, 97, 110, 100, 115, 32, 104, 101, 114, 101])]))
def laid_loop_example_g00020_impl_errBent {H : Type} : DataW H := .iface "*errors.errorString" (.ptr (.agg [.lit (.string [116, 104, 101, 32, 114, 101, 99, 111, 114, 100, 32, 105, 115, 32, 99, 117, 116, 32, 111, 102, 102, 44, 32, 105, 108, 108, 32, 111, 114, 32, 111, 102, 32, 97, 110, 111, 116, 104, 101, 114, 32, 115, 117, 109])]))

/-- 'laws.FnDurable': WHATEVER THE INPUT: true; the input reads as it did. -/
def fnDurableSpec : ChangeSpec := { name := "fnDurable", vars := ["loop.example/g00020/impl.errNoMark", "loop.example/g00020/impl.errBent"], fn := fun _ => fun
  | [d1, d2, g1, g2] => { results := [.lit (.bool true)], args := [d1, d2], vars := [g1, g2] }
  | _ => none }
def fnDurableRow : OpenClaim := { program := "ytngkiokibldfjaagreatdoor", sum := "6bd23650c83990f52308ee34bc8c0bca70e7f8023dd6fa393fc2c597c516181e", func := "loop.example/g00020/laws.FnDurable", spec := "fnDurable", inPlace := ["internal/reflectlite.TypeOf", "internal/bytealg.IndexByteString", "slices.overlaps[loop.example/g00020/impl.filed]", "internal/abi.NoEscape"], unfollowed := true, recurses := true, named := ["loop.example/g00020/impl.errNoMark", "loop.example/g00020/impl.errBent", "internal/strconv.uint64pow10", "math/bits.deBruijn32tab", "math/bits.deBruijn64tab"], ifaces := true, apart := false, laid := [("math/bits.deBruijn32tab", laid_math_bits_deBruijn32tab), ("math/bits.deBruijn64tab", laid_math_bits_deBruijn64tab), ("internal/strconv.uint64pow10", laid_internal_strconv_uint64pow10), ("loop.example/g00020/impl.errNoMark", laid_loop_example_g00020_impl_errNoMark), ("loop.example/g00020/impl.errBent", laid_loop_example_g00020_impl_errBent)] }
def FnDurableSaid : Prop := fnDurableRow.holds Tryz.pinned (OpenSpec.ofChange fnDurableSpec)

/-- ITS FALSE NEIGHBOUR: 'it returns false'. Refute it at one input. -/
def fnDurableWrong : ChangeSpec := { name := "fnDurable", vars := ["loop.example/g00020/impl.errNoMark", "loop.example/g00020/impl.errBent"], fn := fun _ => fun
  | [d1, d2, g1, g2] => { results := [.lit (.bool false)], args := [d1, d2], vars := [g1, g2] }
  | _ => none }
def FnDurableWrongFalsely : Prop := fnDurableRow.holds Tryz.pinned (OpenSpec.ofChange fnDurableWrong)

/-- 'laws.FnExtents': WHATEVER THE INPUT: true; the input reads as it did. -/
def fnExtentsSpec : ChangeSpec := { name := "fnExtents", vars := ["loop.example/g00020/impl.errNoMark", "loop.example/g00020/impl.errBent"], fn := fun _ => fun
  | [d, g1, g2] => { results := [.lit (.bool true)], args := [d], vars := [g1, g2] }
  | _ => none }
def fnExtentsRow : OpenClaim := { program := "ytngkiokibldfjaagreatdoor", sum := "6bd23650c83990f52308ee34bc8c0bca70e7f8023dd6fa393fc2c597c516181e", func := "loop.example/g00020/laws.FnExtents", spec := "fnExtents", inPlace := ["internal/reflectlite.TypeOf", "internal/bytealg.IndexByteString", "slices.overlaps[loop.example/g00020/impl.filed]", "internal/abi.NoEscape"], unfollowed := true, recurses := true, named := ["loop.example/g00020/impl.errNoMark", "loop.example/g00020/impl.errBent", "internal/strconv.uint64pow10", "math/bits.deBruijn32tab", "math/bits.deBruijn64tab"], ifaces := true, apart := false, laid := [("math/bits.deBruijn32tab", laid_math_bits_deBruijn32tab), ("math/bits.deBruijn64tab", laid_math_bits_deBruijn64tab), ("internal/strconv.uint64pow10", laid_internal_strconv_uint64pow10), ("loop.example/g00020/impl.errNoMark", laid_loop_example_g00020_impl_errNoMark), ("loop.example/g00020/impl.errBent", laid_loop_example_g00020_impl_errBent)] }
def FnExtentsSaid : Prop := fnExtentsRow.holds Tryz.pinned (OpenSpec.ofChange fnExtentsSpec)

/-- ITS FALSE NEIGHBOUR: 'it returns false'. Refute it at one input. -/
def fnExtentsWrong : ChangeSpec := { name := "fnExtents", vars := ["loop.example/g00020/impl.errNoMark", "loop.example/g00020/impl.errBent"], fn := fun _ => fun
  | [d, g1, g2] => { results := [.lit (.bool false)], args := [d], vars := [g1, g2] }
  | _ => none }
def FnExtentsWrongFalsely : Prop := fnExtentsRow.holds Tryz.pinned (OpenSpec.ofChange fnExtentsWrong)

/-- 'laws.FnExactRunExtent': WHATEVER THE INPUT: true; the input reads as it did. -/
def fnExactRunExtentSpec : ChangeSpec := { name := "fnExactRunExtent", vars := ["loop.example/g00020/impl.errNoMark", "loop.example/g00020/impl.errBent"], fn := fun _ => fun
  | [d1, d2, g1, g2] => { results := [.lit (.bool true)], args := [d1, d2], vars := [g1, g2] }
  | _ => none }
def fnExactRunExtentRow : OpenClaim := { program := "ytngkiokibldfjaagreatdoor", sum := "6bd23650c83990f52308ee34bc8c0bca70e7f8023dd6fa393fc2c597c516181e", func := "loop.example/g00020/laws.FnExactRunExtent", spec := "fnExactRunExtent", inPlace := ["internal/reflectlite.TypeOf", "internal/bytealg.IndexByteString", "slices.overlaps[loop.example/g00020/impl.filed]", "internal/abi.NoEscape"], unfollowed := true, recurses := true, named := ["loop.example/g00020/impl.errNoMark", "loop.example/g00020/impl.errBent", "internal/strconv.uint64pow10", "math/bits.deBruijn32tab", "math/bits.deBruijn64tab"], ifaces := true, apart := false, laid := [("math/bits.deBruijn32tab", laid_math_bits_deBruijn32tab), ("math/bits.deBruijn64tab", laid_math_bits_deBruijn64tab), ("internal/strconv.uint64pow10", laid_internal_strconv_uint64pow10), ("loop.example/g00020/impl.errNoMark", laid_loop_example_g00020_impl_errNoMark), ("loop.example/g00020/impl.errBent", laid_loop_example_g00020_impl_errBent)] }
def FnExactRunExtentSaid : Prop := fnExactRunExtentRow.holds Tryz.pinned (OpenSpec.ofChange fnExactRunExtentSpec)

/-- ITS FALSE NEIGHBOUR: 'it returns false'. Refute it at one input. -/
def fnExactRunExtentWrong : ChangeSpec := { name := "fnExactRunExtent", vars := ["loop.example/g00020/impl.errNoMark", "loop.example/g00020/impl.errBent"], fn := fun _ => fun
  | [d1, d2, g1, g2] => { results := [.lit (.bool false)], args := [d1, d2], vars := [g1, g2] }
  | _ => none }
def FnExactRunExtentWrongFalsely : Prop := fnExactRunExtentRow.holds Tryz.pinned (OpenSpec.ofChange fnExactRunExtentWrong)

/- THE SECOND FORM. 'bulk': how many values and letters a reading holds, each counted each time it is reached (what is shared counts as often as it is met; a slice's spare places count too). A statement '..UptoSaid' is the law's where the arguments, and the package variables that the reading takes, are together of bulk at most 1048576: NARROWER than '..Said'. Prove '..Said' where nothing that the law and all that it calls make is longer than what came in: it says more and counts as full. Else prove '..UptoSaid'. A law counts once. -/
mutual
def uptoBulk {H : Type} : DataW H → Nat
  | .lit (.string bytes) => bytes.length + 1
  | .lit _ => 1
  | .nil => 1
  | .ptr d => uptoBulk d + 1
  | .slice elems spare => uptoBulkAll elems + uptoBulkAll spare + 1
  | .agg parts => uptoBulkAll parts + 1
  | .iface _ d => uptoBulk d + 1
  | .map entries => uptoBulkEntries entries + 1
  | .held _ => 1
def uptoBulkAll {H : Type} : List (DataW H) → Nat
  | [] => 0
  | d :: r => uptoBulk d + uptoBulkAll r
def uptoBulkEntries {H : Type} : List (Lit × DataW H) → Nat
  | [] => 0
  | x :: r => uptoBulkEntry x + uptoBulkEntries r
def uptoBulkEntry {H : Type} : Lit × DataW H → Nat
  | (.string bytes, d) => bytes.length + uptoBulk d + 1
  | (_, d) => uptoBulk d + 1
 end
def uptoSmall : (H : Type) → List (DataW H) → Bool := fun _ ds => decide (uptoBulkAll ds ≤ 1048576)
def OpenSpec.upto (s : _root_.Go.ChangeSpec) : _root_.Go.OpenSpec := { _root_.Go.OpenSpec.ofChange s with cond := some uptoSmall }

/-- 'laws.FnDurable', WHERE WHAT IT READS IS OF BULK AT MOST 1048576: true; the input reads as it did. -/
def fnDurableUptoRow : OpenClaim := { program := "ytngkiokibldfjaagreatdoor", sum := "6bd23650c83990f52308ee34bc8c0bca70e7f8023dd6fa393fc2c597c516181e", func := "loop.example/g00020/laws.FnDurable", spec := "fnDurable", inPlace := ["internal/reflectlite.TypeOf", "internal/bytealg.IndexByteString", "slices.overlaps[loop.example/g00020/impl.filed]", "internal/abi.NoEscape"], unfollowed := true, recurses := true, named := ["loop.example/g00020/impl.errNoMark", "loop.example/g00020/impl.errBent", "internal/strconv.uint64pow10", "math/bits.deBruijn32tab", "math/bits.deBruijn64tab"], ifaces := true, apart := false, laid := [("math/bits.deBruijn32tab", laid_math_bits_deBruijn32tab), ("math/bits.deBruijn64tab", laid_math_bits_deBruijn64tab), ("internal/strconv.uint64pow10", laid_internal_strconv_uint64pow10), ("loop.example/g00020/impl.errNoMark", laid_loop_example_g00020_impl_errNoMark), ("loop.example/g00020/impl.errBent", laid_loop_example_g00020_impl_errBent)], narrowed := true }
def FnDurableUptoSaid : Prop := fnDurableUptoRow.holds Tryz.pinned (OpenSpec.upto fnDurableSpec)

/-- 'laws.FnExtents', WHERE WHAT IT READS IS OF BULK AT MOST 1048576: true; the input reads as it did. -/
def fnExtentsUptoRow : OpenClaim := { program := "ytngkiokibldfjaagreatdoor", sum := "6bd23650c83990f52308ee34bc8c0bca70e7f8023dd6fa393fc2c597c516181e", func := "loop.example/g00020/laws.FnExtents", spec := "fnExtents", inPlace := ["internal/reflectlite.TypeOf", "internal/bytealg.IndexByteString", "slices.overlaps[loop.example/g00020/impl.filed]", "internal/abi.NoEscape"], unfollowed := true, recurses := true, named := ["loop.example/g00020/impl.errNoMark", "loop.example/g00020/impl.errBent", "internal/strconv.uint64pow10", "math/bits.deBruijn32tab", "math/bits.deBruijn64tab"], ifaces := true, apart := false, laid := [("math/bits.deBruijn32tab", laid_math_bits_deBruijn32tab), ("math/bits.deBruijn64tab", laid_math_bits_deBruijn64tab), ("internal/strconv.uint64pow10", laid_internal_strconv_uint64pow10), ("loop.example/g00020/impl.errNoMark", laid_loop_example_g00020_impl_errNoMark), ("loop.example/g00020/impl.errBent", laid_loop_example_g00020_impl_errBent)], narrowed := true }
def FnExtentsUptoSaid : Prop := fnExtentsUptoRow.holds Tryz.pinned (OpenSpec.upto fnExtentsSpec)

/-- 'laws.FnExactRunExtent', WHERE WHAT IT READS IS OF BULK AT MOST 1048576: true; the input reads as it did. -/
def fnExactRunExtentUptoRow : OpenClaim := { program := "ytngkiokibldfjaagreatdoor", sum := "6bd23650c83990f52308ee34bc8c0bca70e7f8023dd6fa393fc2c597c516181e", func := "loop.example/g00020/laws.FnExactRunExtent", spec := "fnExactRunExtent", inPlace := ["internal/reflectlite.TypeOf", "internal/bytealg.IndexByteString", "slices.overlaps[loop.example/g00020/impl.filed]", "internal/abi.NoEscape"], unfollowed := true, recurses := true, named := ["loop.example/g00020/impl.errNoMark", "loop.example/g00020/impl.errBent", "internal/strconv.uint64pow10", "math/bits.deBruijn32tab", "math/bits.deBruijn64tab"], ifaces := true, apart := false, laid := [("math/bits.deBruijn32tab", laid_math_bits_deBruijn32tab), ("math/bits.deBruijn64tab", laid_math_bits_deBruijn64tab), ("internal/strconv.uint64pow10", laid_internal_strconv_uint64pow10), ("loop.example/g00020/impl.errNoMark", laid_loop_example_g00020_impl_errNoMark), ("loop.example/g00020/impl.errBent", laid_loop_example_g00020_impl_errBent)], narrowed := true }
def FnExactRunExtentUptoSaid : Prop := fnExactRunExtentUptoRow.holds Tryz.pinned (OpenSpec.upto fnExactRunExtentSpec)

end Rows
end Go.Proofs.YtngkiokibldfjaaGreatDoor
