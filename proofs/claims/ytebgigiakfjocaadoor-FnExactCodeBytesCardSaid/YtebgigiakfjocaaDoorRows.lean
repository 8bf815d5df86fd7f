/-
  NARROWER THAN 'FOR EVERY INPUT', by the rows' own cells (each row's printed sentence says how): FnExactArenaText: laid · FnExactCodeWord: laid · FnExactResultText: laid · FnExactCodeText: laid · FnExactCodeBytes: laid · FnExactCodeRead: laid.
  DERIVED. THE GIVEN ROWS OF THIS SEAT. 6 by the template 'for every input the law returns true; each argument reads behind the call as it read before'; 0 by the template 'total and deterministic' (their statements: YtebgigiakfjocaaDoorTotals.lean).
  GIVEN WITH THE SEED: the statements are not yours to turn. If you find one false, say at which input.
  Laid BY PROGRAM, IN A SANDBOX (cutbox-rows.mjs): the forced cells as the released guide's own fill.sh prints them over the translation 0cf8a84510b591de… (all of the seat's roots in one cut). By AI agents, Wed Nov 11 2026. No macro, syntax, notation, axiom, sorry.
-/
import Derived.Test.YtebgigiakfjocaaDoorChecked
import GoSem.Claim
import GoSem.ClaimJoined
import GoSem.ClaimMapViews
import Derived.JoinedTies
import Derived.KernelRfl
namespace Go.Proofs.YtebgigiakfjocaaDoor
/- THE CELL 'sum', in the pinned program and in every row, IS THE sha256 OF THE DUMP (.gsa) THAT YtebgigiakfjocaaDoorProg.lean LOADS. Nothing in Lean hashes anything: it is a label: what it is worth is what the hold of that sum in a sandbox is worth. -/
noncomputable def Tryd.pinned : Pinned := { name := "ytebgigiakfjocaadoor", sum := "0cf8a84510b591de73833d964fc3b81f709b6793163a2497c693cf536062eac5", checked := Tryd.checked }
namespace Rows
def none {H : Type} : Left H := { results := [], args := [] }

/- WHAT THE LISTED PACKAGE-LEVEL VARIABLES READ AS WHEN THE CALL BEGINS. Each datum BY PROGRAM (the guide's laid-datum.mjs) off the statement by which the dump's own 'gosem.cut.vars' lays the variable. In a bare row this is a premise. The card (YtebgigiakfjocaaDoorCards.lean) ties it to the program's text. -/
def laid_math_bits_deBruijn32tab {H : Type} : DataW H := .agg [.lit (.int .u8 0), .lit (.int .u8 1), .lit (.int .u8 28), .lit (.int .u8 2), .lit (.int .u8 29), .lit (.int .u8 14), .lit (.int .u8 24), .lit (.int .u8 3), .lit (.int .u8 30), .lit (.int .u8 22), .lit (.int .u8 20), .lit (.int .u8 15), .lit (.int .u8 25), .lit (.int .u8 17), .lit (.int .u8 4), .lit (.int .u8 8), .lit (.int .u8 31), .lit (.int .u8 27), .lit (.int .u8 13), .lit (.int .u8 23), .lit (.int .u8 21), .lit (.int .u8 19), .lit (.int .u8 16), .lit (.int .u8 7), .lit (.int .u8 26), .lit (.int .u8 12), .lit (.int .u8 18), .lit (.int .u8 6), .lit (.int .u8 11), .lit (.int .u8 5), .lit (.int .u8 10), .lit (.int .u8 9)]
def laid_math_bits_deBruijn64tab {H : Type} : DataW H := .agg [.lit (.int .u8 0), .lit (.int .u8 1), .lit (.int .u8 56), .lit (.int .u8 2), .lit (.int .u8 57), .lit (.int .u8 49), .lit (.int .u8 28), .lit (.int .u8 3), .lit (.int .u8 61), .lit (.int .u8 58), .lit (.int .u8 42), .lit (.int .u8 50), .lit (.int .u8 38), .lit (.int .u8 29), .lit (.int .u8 17), .lit (.int .u8 4), .lit (.int .u8 62), .lit (.int .u8 47), .lit (.int .u8 59), .lit (.int .u8 36), .lit (.int .u8 45), .lit (.int .u8 43), .lit (.int .u8 51), .lit (.int .u8 22), .lit (.int .u8 53), .lit (.int .u8 39), .lit (.int .u8 33), .lit (.int .u8 30), .lit (.int .u8 24), .lit (.int .u8 18), .lit (.int .u8 12), .lit (.int .u8 5), .lit (.int .u8 63), .lit (.int .u8 55), .lit (.int .u8 48), .lit (.int .u8 27), .lit (.int .u8 60), .lit (.int .u8 41), .lit (.int .u8 37), .lit (.int .u8 16), .lit (.int .u8 46), .lit (.int .u8 35), .lit (.int .u8 44), .lit (.int .u8 21), .lit (.int .u8 52), .lit (.int .u8 32), .lit (.int .u8 23), .lit (.int .u8 11), .lit (.int .u8 54), .lit (.int .u8 26), .lit (.int .u8 40), .lit (.int .u8 15), .lit (.int .u8 34), .lit (.int .u8 20), .lit (.int .u8 31), .lit (.int .u8 10), .lit (.int .u8 25), .lit (.int .u8 14), .lit (.int .u8 19), .lit (.int .u8 9), .lit (.int .u8 13), .lit (.int .u8 8), .lit (.int .u8 7), .lit (.int .u8 6)]
def laid_internal_strconv_uint64pow10 {H : Type} : DataW H := .agg [.lit (.int .u64 1), .lit (.int .u64 10), .lit (.int .u64 100), .lit (.int .u64 1000), .lit (.int .u64 10000), .lit (.int .u64 100000), .lit (.int .u64 1000000), .lit (.int .u64 10000000), .lit (.int .u64 100000000), .lit (.int .u64 1000000000), .lit (.int .u64 10000000000), .lit (.int .u64 100000000000), .lit (.int .u64 1000000000000), .lit (.int .u64 10000000000000), .lit (.int .u64 100000000000000), .lit (.int .u64 1000000000000000), .lit (.int .u64 10000000000000000), .lit (.int .u64 100000000000000000), .lit (.int .u64 1000000000000000000), .lit (.int .u64 10000000000000000000)]
def laid_loop_example_g00547_impl_codeWords {H : Type} : DataW H := .agg [.lit (.string [100, 111, 110, 101]), .lit (.string [116, 121, 112, 101]), .lit (.string [100, 101, 101, 112]), .lit (.string [102, 117, 101, 108]), .lit (.string [102, 117, 108, 108]), .lit (.string [102, 111, 114, 109])]
def laid_loop_example_g00547_impl_orderForms {H : Type} : DataW H := .agg [.agg [.lit (.string [116, 105, 99, 107]), .lit (.int .i64 0), .lit (.int .i64 0), .lit (.int .i64 0), .lit (.bool false)], .agg [.lit (.string [110, 117, 109]), .lit (.int .i64 1), .lit (.int .i64 4), .lit (.int .i64 0), .lit (.bool false)], .agg [.lit (.string [110, 105, 108]), .lit (.int .i64 1), .lit (.int .i64 0), .lit (.int .i64 0), .lit (.bool false)], .agg [.lit (.string [109, 111, 118, 101]), .lit (.int .i64 1), .lit (.int .i64 1), .lit (.int .i64 0), .lit (.bool false)], .agg [.lit (.string [110, 101, 119]), .lit (.int .i64 1), .lit (.int .i64 0), .lit (.int .i64 0), .lit (.bool false)], .agg [.lit (.string [103, 101, 116]), .lit (.int .i64 1), .lit (.int .i64 1), .lit (.int .i64 0), .lit (.bool true)], .agg [.lit (.string [112, 117, 116]), .lit (.int .i64 1), .lit (.int .i64 1), .lit (.int .i64 0), .lit (.bool true)], .agg [.lit (.string [98, 105, 110]), .lit (.int .i64 2), .lit (.int .i64 1), .lit (.int .i64 5), .lit (.bool false)], .agg [.lit (.string [106, 117, 109, 112]), .lit (.int .i64 3), .lit (.int .i64 0), .lit (.int .i64 0), .lit (.bool false)], .agg [.lit (.string [122, 101, 114, 111]), .lit (.int .i64 1), .lit (.int .i64 3), .lit (.int .i64 0), .lit (.bool false)], .agg [.lit (.string [99, 97, 108, 108]), .lit (.int .i64 1), .lit (.int .i64 6), .lit (.int .i64 7), .lit (.bool false)], .agg [.lit (.string [98, 97, 99, 107]), .lit (.int .i64 1), .lit (.int .i64 0), .lit (.int .i64 0), .lit (.bool false)], .agg [.lit (.string [115, 104, 111, 119]), .lit (.int .i64 1), .lit (.int .i64 0), .lit (.int .i64 0), .lit (.bool false)], .agg [.lit (.string [119, 101, 97, 107]), .lit (.int .i64 1), .lit (.int .i64 1), .lit (.int .i64 0), .lit (.bool false)], .agg [.lit (.string [108, 105, 118, 101]), .lit (.int .i64 1), .lit (.int .i64 1), .lit (.int .i64 0), .lit (.bool false)]]

/-- 'laws.FnExactArenaText': WHATEVER THE INPUT: true; the input reads as it did. -/
def fnExactArenaTextSpec : ChangeSpec := { name := "fnExactArenaText", fn := fun _ => fun
  | [d] => { results := [.lit (.bool true)], args := [d] }
  | _ => none }
def fnExactArenaTextRow : OpenClaim := { program := "ytebgigiakfjocaadoor", sum := "0cf8a84510b591de73833d964fc3b81f709b6793163a2497c693cf536062eac5", func := "loop.example/g00547/laws.FnExactArenaText", spec := "fnExactArenaText", inPlace := ["slices.overlaps[int]", "internal/bytealg.Compare"], unfollowed := true, recurses := true, named := ["internal/strconv.uint64pow10", "math/bits.deBruijn32tab", "math/bits.deBruijn64tab"], apart := false, laid := [("math/bits.deBruijn32tab", laid_math_bits_deBruijn32tab), ("math/bits.deBruijn64tab", laid_math_bits_deBruijn64tab), ("internal/strconv.uint64pow10", laid_internal_strconv_uint64pow10)] }
def FnExactArenaTextSaid : Prop := fnExactArenaTextRow.holds Tryd.pinned (OpenSpec.ofChange fnExactArenaTextSpec)

/-- ITS FALSE NEIGHBOUR: 'it returns false'. Refute it at one input. -/
def fnExactArenaTextWrong : ChangeSpec := { name := "fnExactArenaText", fn := fun _ => fun
  | [d] => { results := [.lit (.bool false)], args := [d] }
  | _ => none }
def FnExactArenaTextWrongFalsely : Prop := fnExactArenaTextRow.holds Tryd.pinned (OpenSpec.ofChange fnExactArenaTextWrong)

/-- 'laws.FnExactCodeWord': WHATEVER THE INPUT: true; the input reads as it did. -/
def fnExactCodeWordSpec : ChangeSpec := { name := "fnExactCodeWord", vars := ["loop.example/g00547/impl.codeWords"], fn := fun _ => fun
  | [d, g1] => { results := [.lit (.bool true)], args := [d], vars := [g1] }
  | _ => none }
def fnExactCodeWordRow : OpenClaim := { program := "ytebgigiakfjocaadoor", sum := "0cf8a84510b591de73833d964fc3b81f709b6793163a2497c693cf536062eac5", func := "loop.example/g00547/laws.FnExactCodeWord", spec := "fnExactCodeWord", named := ["loop.example/g00547/impl.codeWords"], apart := false, laid := [("loop.example/g00547/impl.codeWords", laid_loop_example_g00547_impl_codeWords)] }
def FnExactCodeWordSaid : Prop := fnExactCodeWordRow.holds Tryd.pinned (OpenSpec.ofChange fnExactCodeWordSpec)

/-- ITS FALSE NEIGHBOUR: 'it returns false'. Refute it at one input. -/
def fnExactCodeWordWrong : ChangeSpec := { name := "fnExactCodeWord", vars := ["loop.example/g00547/impl.codeWords"], fn := fun _ => fun
  | [d, g1] => { results := [.lit (.bool false)], args := [d], vars := [g1] }
  | _ => none }
def FnExactCodeWordWrongFalsely : Prop := fnExactCodeWordRow.holds Tryd.pinned (OpenSpec.ofChange fnExactCodeWordWrong)

/-- 'laws.FnExactResultText': WHATEVER THE INPUT: true; the input reads as it did. -/
def fnExactResultTextSpec : ChangeSpec := { name := "fnExactResultText", vars := ["loop.example/g00547/impl.codeWords"], fn := fun _ => fun
  | [d, g1] => { results := [.lit (.bool true)], args := [d], vars := [g1] }
  | _ => none }
def fnExactResultTextRow : OpenClaim := { program := "ytebgigiakfjocaadoor", sum := "0cf8a84510b591de73833d964fc3b81f709b6793163a2497c693cf536062eac5", func := "loop.example/g00547/laws.FnExactResultText", spec := "fnExactResultText", recurses := true, named := ["loop.example/g00547/impl.codeWords", "internal/strconv.uint64pow10", "math/bits.deBruijn32tab", "math/bits.deBruijn64tab"], apart := false, laid := [("math/bits.deBruijn32tab", laid_math_bits_deBruijn32tab), ("math/bits.deBruijn64tab", laid_math_bits_deBruijn64tab), ("internal/strconv.uint64pow10", laid_internal_strconv_uint64pow10), ("loop.example/g00547/impl.codeWords", laid_loop_example_g00547_impl_codeWords)] }
def FnExactResultTextSaid : Prop := fnExactResultTextRow.holds Tryd.pinned (OpenSpec.ofChange fnExactResultTextSpec)

/-- ITS FALSE NEIGHBOUR: 'it returns false'. Refute it at one input. -/
def fnExactResultTextWrong : ChangeSpec := { name := "fnExactResultText", vars := ["loop.example/g00547/impl.codeWords"], fn := fun _ => fun
  | [d, g1] => { results := [.lit (.bool false)], args := [d], vars := [g1] }
  | _ => none }
def FnExactResultTextWrongFalsely : Prop := fnExactResultTextRow.holds Tryd.pinned (OpenSpec.ofChange fnExactResultTextWrong)

/-- 'laws.FnExactCodeText': WHATEVER THE INPUT: true; the input reads as it did. -/
def fnExactCodeTextSpec : ChangeSpec := { name := "fnExactCodeText", vars := ["loop.example/g00547/impl.orderForms"], fn := fun _ => fun
  | [d, g1] => { results := [.lit (.bool true)], args := [d], vars := [g1] }
  | _ => none }
def fnExactCodeTextRow : OpenClaim := { program := "ytebgigiakfjocaadoor", sum := "0cf8a84510b591de73833d964fc3b81f709b6793163a2497c693cf536062eac5", func := "loop.example/g00547/laws.FnExactCodeText", spec := "fnExactCodeText", unfollowed := true, recurses := true, named := ["loop.example/g00547/impl.orderForms", "internal/strconv.uint64pow10", "math/bits.deBruijn32tab", "math/bits.deBruijn64tab"], apart := false, laid := [("math/bits.deBruijn32tab", laid_math_bits_deBruijn32tab), ("math/bits.deBruijn64tab", laid_math_bits_deBruijn64tab), ("internal/strconv.uint64pow10", laid_internal_strconv_uint64pow10), ("loop.example/g00547/impl.orderForms", laid_loop_example_g00547_impl_orderForms)] }
def FnExactCodeTextSaid : Prop := fnExactCodeTextRow.holds Tryd.pinned (OpenSpec.ofChange fnExactCodeTextSpec)

/-- ITS FALSE NEIGHBOUR: 'it returns false'. Refute it at one input. -/
def fnExactCodeTextWrong : ChangeSpec := { name := "fnExactCodeText", vars := ["loop.example/g00547/impl.orderForms"], fn := fun _ => fun
  | [d, g1] => { results := [.lit (.bool false)], args := [d], vars := [g1] }
  | _ => none }
def FnExactCodeTextWrongFalsely : Prop := fnExactCodeTextRow.holds Tryd.pinned (OpenSpec.ofChange fnExactCodeTextWrong)

/-- 'laws.FnExactCodeBytes': WHATEVER THE INPUT: true; the input reads as it did. -/
def fnExactCodeBytesSpec : ChangeSpec := { name := "fnExactCodeBytes", vars := ["loop.example/g00547/impl.orderForms"], fn := fun _ => fun
  | [d, g1] => { results := [.lit (.bool true)], args := [d], vars := [g1] }
  | _ => none }
def fnExactCodeBytesRow : OpenClaim := { program := "ytebgigiakfjocaadoor", sum := "0cf8a84510b591de73833d964fc3b81f709b6793163a2497c693cf536062eac5", func := "loop.example/g00547/laws.FnExactCodeBytes", spec := "fnExactCodeBytes", unfollowed := true, recurses := true, named := ["loop.example/g00547/impl.orderForms"], apart := false, laid := [("loop.example/g00547/impl.orderForms", laid_loop_example_g00547_impl_orderForms)] }
def FnExactCodeBytesSaid : Prop := fnExactCodeBytesRow.holds Tryd.pinned (OpenSpec.ofChange fnExactCodeBytesSpec)

/-- ITS FALSE NEIGHBOUR: 'it returns false'. Refute it at one input. -/
def fnExactCodeBytesWrong : ChangeSpec := { name := "fnExactCodeBytes", vars := ["loop.example/g00547/impl.orderForms"], fn := fun _ => fun
  | [d, g1] => { results := [.lit (.bool false)], args := [d], vars := [g1] }
  | _ => none }
def FnExactCodeBytesWrongFalsely : Prop := fnExactCodeBytesRow.holds Tryd.pinned (OpenSpec.ofChange fnExactCodeBytesWrong)

/-- 'laws.FnExactCodeRead': WHATEVER THE INPUT: true; the input reads as it did. -/
def fnExactCodeReadSpec : ChangeSpec := { name := "fnExactCodeRead", vars := ["loop.example/g00547/impl.orderForms"], fn := fun _ => fun
  | [d, g1] => { results := [.lit (.bool true)], args := [d], vars := [g1] }
  | _ => none }
def fnExactCodeReadRow : OpenClaim := { program := "ytebgigiakfjocaadoor", sum := "0cf8a84510b591de73833d964fc3b81f709b6793163a2497c693cf536062eac5", func := "loop.example/g00547/laws.FnExactCodeRead", spec := "fnExactCodeRead", unfollowed := true, recurses := true, named := ["loop.example/g00547/impl.orderForms"], apart := false, laid := [("loop.example/g00547/impl.orderForms", laid_loop_example_g00547_impl_orderForms)] }
def FnExactCodeReadSaid : Prop := fnExactCodeReadRow.holds Tryd.pinned (OpenSpec.ofChange fnExactCodeReadSpec)

/-- ITS FALSE NEIGHBOUR: 'it returns false'. Refute it at one input. -/
def fnExactCodeReadWrong : ChangeSpec := { name := "fnExactCodeRead", vars := ["loop.example/g00547/impl.orderForms"], fn := fun _ => fun
  | [d, g1] => { results := [.lit (.bool false)], args := [d], vars := [g1] }
  | _ => none }
def FnExactCodeReadWrongFalsely : Prop := fnExactCodeReadRow.holds Tryd.pinned (OpenSpec.ofChange fnExactCodeReadWrong)

/- THE SECOND FORM. 'bulk': how many values and letters a reading holds, each counted each time it is reached (what is shared counts as often as it is met; a slice's spare places count too). A statement '..UptoSaid' is the law's where the arguments, and the package variables that the reading takes, are together of bulk at most 1048576: NARROWER than '..Said'. Prove '..Said' where nothing that the law and all that it calls make is longer than what came in: it says more and counts as full. Else prove '..UptoSaid'. A law counts once. -/
mutual
def uptoBulk {H : Type} : DataW H → Nat
  | .lit (.string bytes) => bytes.length + 1
  | .lit _ => 1
  | .nil => 1
  | .ptr d => uptoBulk d + 1
  | .slice elems spare => uptoBulkAll elems + uptoBulkAll spare + 1
  | .agg parts => uptoBulkAll parts + 1
  | .iface _ d => uptoBulk d + 1
  | .map entries => uptoBulkEntries entries + 1
  | .held _ => 1
def uptoBulkAll {H : Type} : List (DataW H) → Nat
  | [] => 0
  | d :: r => uptoBulk d + uptoBulkAll r
def uptoBulkEntries {H : Type} : List (Lit × DataW H) → Nat
  | [] => 0
  | x :: r => uptoBulkEntry x + uptoBulkEntries r
def uptoBulkEntry {H : Type} : Lit × DataW H → Nat
  | (.string bytes, d) => bytes.length + uptoBulk d + 1
  | (_, d) => uptoBulk d + 1
 end
def uptoSmall : (H : Type) → List (DataW H) → Bool := fun _ ds => decide (uptoBulkAll ds ≤ 1048576)
def OpenSpec.upto (s : _root_.Go.ChangeSpec) : _root_.Go.OpenSpec := { _root_.Go.OpenSpec.ofChange s with cond := some uptoSmall }

/-- 'laws.FnExactArenaText', WHERE WHAT IT READS IS OF BULK AT MOST 1048576: true; the input reads as it did. -/
def fnExactArenaTextUptoRow : OpenClaim := { program := "ytebgigiakfjocaadoor", sum := "0cf8a84510b591de73833d964fc3b81f709b6793163a2497c693cf536062eac5", func := "loop.example/g00547/laws.FnExactArenaText", spec := "fnExactArenaText", inPlace := ["slices.overlaps[int]", "internal/bytealg.Compare"], unfollowed := true, recurses := true, named := ["internal/strconv.uint64pow10", "math/bits.deBruijn32tab", "math/bits.deBruijn64tab"], apart := false, laid := [("math/bits.deBruijn32tab", laid_math_bits_deBruijn32tab), ("math/bits.deBruijn64tab", laid_math_bits_deBruijn64tab), ("internal/strconv.uint64pow10", laid_internal_strconv_uint64pow10)], narrowed := true }
def FnExactArenaTextUptoSaid : Prop := fnExactArenaTextUptoRow.holds Tryd.pinned (OpenSpec.upto fnExactArenaTextSpec)

/-- 'laws.FnExactCodeWord', WHERE WHAT IT READS IS OF BULK AT MOST 1048576: true; the input reads as it did. -/
def fnExactCodeWordUptoRow : OpenClaim := { program := "ytebgigiakfjocaadoor", sum := "0cf8a84510b591de73833d964fc3b81f709b6793163a2497c693cf536062eac5", func := "loop.example/g00547/laws.FnExactCodeWord", spec := "fnExactCodeWord", named := ["loop.example/g00547/impl.codeWords"], apart := false, laid := [("loop.example/g00547/impl.codeWords", laid_loop_example_g00547_impl_codeWords)], narrowed := true }
def FnExactCodeWordUptoSaid : Prop := fnExactCodeWordUptoRow.holds Tryd.pinned (OpenSpec.upto fnExactCodeWordSpec)

/-- 'laws.FnExactResultText', WHERE WHAT IT READS IS OF BULK AT MOST 1048576: true; the input reads as it did. -/
def fnExactResultTextUptoRow : OpenClaim := { program := "ytebgigiakfjocaadoor", sum := "0cf8a84510b591de73833d964fc3b81f709b6793163a2497c693cf536062eac5", func := "loop.example/g00547/laws.FnExactResultText", spec := "fnExactResultText", recurses := true, named := ["loop.example/g00547/impl.codeWords", "internal/strconv.uint64pow10", "math/bits.deBruijn32tab", "math/bits.deBruijn64tab"], apart := false, laid := [("math/bits.deBruijn32tab", laid_math_bits_deBruijn32tab), ("math/bits.deBruijn64tab", laid_math_bits_deBruijn64tab), ("internal/strconv.uint64pow10", laid_internal_strconv_uint64pow10), ("loop.example/g00547/impl.codeWords", laid_loop_example_g00547_impl_codeWords)], narrowed := true }
def FnExactResultTextUptoSaid : Prop := fnExactResultTextUptoRow.holds Tryd.pinned (OpenSpec.upto fnExactResultTextSpec)

/-- 'laws.FnExactCodeText', WHERE WHAT IT READS IS OF BULK AT MOST 1048576: true; the input reads as it did. -/
def fnExactCodeTextUptoRow : OpenClaim := { program := "ytebgigiakfjocaadoor", sum := "0cf8a84510b591de73833d964fc3b81f709b6793163a2497c693cf536062eac5", func := "loop.example/g00547/laws.FnExactCodeText", spec := "fnExactCodeText", unfollowed := true, recurses := true, named := ["loop.example/g00547/impl.orderForms", "internal/strconv.uint64pow10", "math/bits.deBruijn32tab", "math/bits.deBruijn64tab"], apart := false, laid := [("math/bits.deBruijn32tab", laid_math_bits_deBruijn32tab), ("math/bits.deBruijn64tab", laid_math_bits_deBruijn64tab), ("internal/strconv.uint64pow10", laid_internal_strconv_uint64pow10), ("loop.example/g00547/impl.orderForms", laid_loop_example_g00547_impl_orderForms)], narrowed := true }
def FnExactCodeTextUptoSaid : Prop := fnExactCodeTextUptoRow.holds Tryd.pinned (OpenSpec.upto fnExactCodeTextSpec)

/-- 'laws.FnExactCodeBytes', WHERE WHAT IT READS IS OF BULK AT MOST 1048576: true; the input reads as it did. -/
def fnExactCodeBytesUptoRow : OpenClaim := { program := "ytebgigiakfjocaadoor", sum := "0cf8a84510b591de73833d964fc3b81f709b6793163a2497c693cf536062eac5", func := "loop.example/g00547/laws.FnExactCodeBytes", spec := "fnExactCodeBytes", unfollowed := true, recurses := true, named := ["loop.example/g00547/impl.orderForms"], apart := false, laid := [("loop.example/g00547/impl.orderForms", laid_loop_example_g00547_impl_orderForms)], narrowed := true }
def FnExactCodeBytesUptoSaid : Prop := fnExactCodeBytesUptoRow.holds Tryd.pinned (OpenSpec.upto fnExactCodeBytesSpec)

/-- 'laws.FnExactCodeRead', WHERE WHAT IT READS IS OF BULK AT MOST 1048576: true; the input reads as it did. -/
def fnExactCodeReadUptoRow : OpenClaim := { program := "ytebgigiakfjocaadoor", sum := "0cf8a84510b591de73833d964fc3b81f709b6793163a2497c693cf536062eac5", func := "loop.example/g00547/laws.FnExactCodeRead", spec := "fnExactCodeRead", unfollowed := true, recurses := true, named := ["loop.example/g00547/impl.orderForms"], apart := false, laid := [("loop.example/g00547/impl.orderForms", laid_loop_example_g00547_impl_orderForms)], narrowed := true }
def FnExactCodeReadUptoSaid : Prop := fnExactCodeReadUptoRow.holds Tryd.pinned (OpenSpec.upto fnExactCodeReadSpec)

end Rows
end Go.Proofs.YtebgigiakfjocaaDoor
