/-
  NARROWER THAN 'FOR EVERY INPUT', by the rows' own cells (each row's printed sentence says how): FoldSmall: laid · FoldTwice: laid · FoldJoined: laid · FoldCase: laid · FoldBoth: laid.
  DERIVED. THE GIVEN ROWS OF THIS SEAT. 5 by the template 'for every input the law returns true; each argument reads behind the call as it read before'; 0 by the template 'total and deterministic' (their statements: YtoenaehkhdcdmaaDoorTotals.lean).
  GIVEN WITH THE SEED: the statements are not yours to turn. If you find one false, say at which input.
  Laid BY PROGRAM, IN A SANDBOX (cutbox-rows.mjs): the forced cells as the released guide's own fill.sh prints them over the translation 011da85399b21e93… (all of the seat's roots in one cut). By AI agents, Wed Nov 11 2026. No macro, syntax, notation, axiom, sorry.
-/
import Derived.Test.YtoenaehkhdcdmaaDoorChecked
import GoSem.Claim
import GoSem.ClaimJoined
import GoSem.ClaimMapViews
import Derived.JoinedTies
import Derived.KernelRfl
namespace Go.Proofs.YtoenaehkhdcdmaaDoor
/- THE CELL 'sum', in the pinned program and in every row, IS THE sha256 OF THE DUMP (.gsa) THAT YtoenaehkhdcdmaaDoorProg.lean LOADS. Nothing in Lean hashes anything: it is a label: what it is worth is what the hold of that sum in a sandbox is worth. -/
noncomputable def Tryd.pinned : Pinned := { name := "ytoenaehkhdcdmaadoor", sum := "011da85399b21e930b8cf1604b4be3ecc0ff33f68294996a22dc5f6831c90cbf", checked := Tryd.checked }
namespace Rows
def none {H : Type} : Left H := { results := [], args := [] }

/- WHAT THE LISTED PACKAGE-LEVEL VARIABLES READ AS WHEN THE CALL BEGINS. Each datum BY PROGRAM (the guide's laid-datum.mjs) off the statement by which the dump's own 'gosem.cut.vars' lays the variable. In a bare row this is a premise. The card (YtoenaehkhdcdmaaDoorCards.lean) ties it to the program's text. -/
def laid_letterbag_fold_latin {H : Type} : DataW H := .agg [.lit (.string [65]), .lit (.string [65]), .lit (.string [65]), .lit (.string [65]), .lit (.string [65, 69]), .lit (.string [65]), .lit (.string [65, 69]), .lit (.string [67]), .lit (.string [69]), .lit (.string [69]), .lit (.string [69]), .lit (.string [69]), .lit (.string [73]), .lit (.string [73]), .lit (.string [73]), .lit (.string [73]), .lit (.string [68]), .lit (.string [78]), .lit (.string [79]), .lit (.string [79]), .lit (.string [79]), .lit (.string [79]), .lit (.string [79, 69]), .lit (.string []), .lit (.string [79]), .lit (.string [85]), .lit (.string [85]), .lit (.string [85]), .lit (.string [85, 69]), .lit (.string [89]), .lit (.string [84, 72]), .lit (.string [83, 83])]
def laid_letterbag_fold_rows {H : Type} : DataW H := .agg [.agg [.lit (.int .u8 1), .lit (.string [78, 79, 82, 84, 72]), .lit (.string [78])], .agg [.lit (.int .u8 1), .lit (.string [83, 79, 85, 84, 72]), .lit (.string [83])], .agg [.lit (.int .u8 1), .lit (.string [69, 65, 83, 84]), .lit (.string [69])], .agg [.lit (.int .u8 1), .lit (.string [87, 69, 83, 84]), .lit (.string [87])], .agg [.lit (.int .u8 1), .lit (.string [78, 79, 82, 84, 72, 69, 65, 83, 84]), .lit (.string [78, 69])], .agg [.lit (.int .u8 1), .lit (.string [78, 79, 82, 84, 72, 87, 69, 83, 84]), .lit (.string [78, 87])], .agg [.lit (.int .u8 1), .lit (.string [83, 79, 85, 84, 72, 69, 65, 83, 84]), .lit (.string [83, 69])], .agg [.lit (.int .u8 1), .lit (.string [83, 79, 85, 84, 72, 87, 69, 83, 84]), .lit (.string [83, 87])], .agg [.lit (.int .u8 2), .lit (.string [83, 84, 82, 69, 69, 84]), .lit (.string [83, 84])], .agg [.lit (.int .u8 2), .lit (.string [65, 86, 69, 78, 85, 69]), .lit (.string [65, 86, 69])], .agg [.lit (.int .u8 2), .lit (.string [65, 86, 69, 78, 85, 69]), .lit (.string [65, 86])], .agg [.lit (.int .u8 2), .lit (.string [82, 79, 65, 68]), .lit (.string [82, 68])], .agg [.lit (.int .u8 2), .lit (.string [68, 82, 73, 86, 69]), .lit (.string [68, 82])], .agg [.lit (.int .u8 2), .lit (.string [76, 65, 78, 69]), .lit (.string [76, 78])], .agg [.lit (.int .u8 2), .lit (.string [67, 79, 85, 82, 84]), .lit (.string [67, 84])], .agg [.lit (.int .u8 2), .lit (.string [80, 76, 65, 67, 69]), .lit (.string [80, 76])], .agg [.lit (.int .u8 2), .lit (.string [83, 81, 85, 65, 82, 69]), .lit (.string [83, 81])], .agg [.lit (.int .u8 2), .lit (.string [66, 79, 85, 76, 69, 86, 65, 82, 68]), .lit (.string [66, 76, 86, 68])], .agg [.lit (.int .u8 2), .lit (.string [84, 69, 82, 82, 65, 67, 69]), .lit (.string [84, 69, 82])], .agg [.lit (.int .u8 2), .lit (.string [72, 73, 71, 72, 87, 65, 89]), .lit (.string [72, 87, 89])], .agg [.lit (.int .u8 2), .lit (.string [67, 82, 69, 83, 67, 69, 78, 84]), .lit (.string [67, 82, 69, 83])], .agg [.lit (.int .u8 2), .lit (.string [87, 65, 89]), .lit (.string [87, 65, 89])], .agg [.lit (.int .u8 2), .lit (.string [83, 84, 82, 65, 83, 83, 69]), .lit (.string [83, 84, 82])], .agg [.lit (.int .u8 2), .lit (.string [80, 76, 65, 84, 90]), .lit (.string [80, 76])], .agg [.lit (.int .u8 2), .lit (.string [87, 69, 71]), .lit (.string [87, 69, 71])], .agg [.lit (.int .u8 2), .lit (.string [65, 76, 76, 69, 69]), .lit (.string [65, 76])], .agg [.lit (.int .u8 3), .lit (.string [65, 80, 65, 82, 84, 77, 69, 78, 84]), .lit (.string [65, 80, 84])], .agg [.lit (.int .u8 3), .lit (.string [83, 85, 73, 84, 69]), .lit (.string [83, 84, 69])], .agg [.lit (.int .u8 3), .lit (.string [70, 76, 79, 79, 82]), .lit (.string [70, 76])], .agg [.lit (.int .u8 3), .lit (.string [82, 79, 79, 77]), .lit (.string [82, 77])], .agg [.lit (.int .u8 3), .lit (.string [70, 76, 65, 84]), .lit (.string [70, 76])], .agg [.lit (.int .u8 3), .lit (.string [85, 78, 73, 84]), .lit (.string [85, 78, 73, 84])], .agg [.lit (.int .u8 4), .lit (.string [66, 79, 88]), .lit (.string [66, 79, 88])], .agg [.lit (.int .u8 4), .lit (.string [80, 79, 83, 84, 66, 79, 88]), .lit (.string [80, 66])], .agg [.lit (.int .u8 4), .lit (.string [80, 79, 83, 84, 70, 65, 67, 72]), .lit (.string [80, 70])], .agg [.lit (.int .u8 5), .lit (.string [83, 65, 73, 78, 84]), .lit (.string [83, 84])], .agg [.lit (.int .u8 5), .lit (.string [83, 65, 73, 78, 84, 69]), .lit (.string [83, 84, 69])], .agg [.lit (.int .u8 5), .lit (.string [77, 79, 85, 78, 84]), .lit (.string [77, 84])], .agg [.lit (.int .u8 5), .lit (.string [70, 79, 82, 84]), .lit (.string [70, 84])], .agg [.lit (.int .u8 5), .lit (.string [68, 79, 67, 84, 79, 82]), .lit (.string [68, 82])]]

/-- 'letterbaglaw05.FoldSmall': WHATEVER THE INPUT: true; the input reads as it did. -/
def foldSmallSpec : ChangeSpec := { name := "foldSmall", fn := fun _ => fun
  | [] => { results := [.lit (.bool true)], args := [] }
  | _ => none }
def foldSmallRow : OpenClaim := { program := "ytoenaehkhdcdmaadoor", sum := "011da85399b21e930b8cf1604b4be3ecc0ff33f68294996a22dc5f6831c90cbf", func := "letterbag/letterbaglaw05.FoldSmall", spec := "foldSmall", unfollowed := true, recurses := true, named := ["letterbag/fold.latin", "letterbag/fold.rows"], apart := false, laid := [("letterbag/fold.latin", laid_letterbag_fold_latin), ("letterbag/fold.rows", laid_letterbag_fold_rows)] }
def FoldSmallSaid : Prop := foldSmallRow.holds Tryd.pinned (OpenSpec.ofChange foldSmallSpec)

/-- ITS FALSE NEIGHBOUR: 'it returns false'. Refute it at one input. -/
def foldSmallWrong : ChangeSpec := { name := "foldSmall", fn := fun _ => fun
  | [] => { results := [.lit (.bool false)], args := [] }
  | _ => none }
def FoldSmallWrongFalsely : Prop := foldSmallRow.holds Tryd.pinned (OpenSpec.ofChange foldSmallWrong)

/-- 'letterbaglaw05.FoldTwice': WHATEVER THE INPUT: true; the input reads as it did. -/
def foldTwiceSpec : ChangeSpec := { name := "foldTwice", fn := fun _ => fun
  | [d] => { results := [.lit (.bool true)], args := [d] }
  | _ => none }
def foldTwiceRow : OpenClaim := { program := "ytoenaehkhdcdmaadoor", sum := "011da85399b21e930b8cf1604b4be3ecc0ff33f68294996a22dc5f6831c90cbf", func := "letterbag/letterbaglaw05.FoldTwice", spec := "foldTwice", unfollowed := true, recurses := true, named := ["letterbag/fold.latin", "letterbag/fold.rows"], apart := false, laid := [("letterbag/fold.latin", laid_letterbag_fold_latin), ("letterbag/fold.rows", laid_letterbag_fold_rows)] }
def FoldTwiceSaid : Prop := foldTwiceRow.holds Tryd.pinned (OpenSpec.ofChange foldTwiceSpec)

/-- ITS FALSE NEIGHBOUR: 'it returns false'. Refute it at one input. -/
def foldTwiceWrong : ChangeSpec := { name := "foldTwice", fn := fun _ => fun
  | [d] => { results := [.lit (.bool false)], args := [d] }
  | _ => none }
def FoldTwiceWrongFalsely : Prop := foldTwiceRow.holds Tryd.pinned (OpenSpec.ofChange foldTwiceWrong)

/-- 'letterbaglaw05.FoldJoined': WHATEVER THE INPUT: true; the input reads as it did. -/
def foldJoinedSpec : ChangeSpec := { name := "foldJoined", fn := fun _ => fun
  | [d1, d2, d3] => { results := [.lit (.bool true)], args := [d1, d2, d3] }
  | _ => none }
def foldJoinedRow : OpenClaim := { program := "ytoenaehkhdcdmaadoor", sum := "011da85399b21e930b8cf1604b4be3ecc0ff33f68294996a22dc5f6831c90cbf", func := "letterbag/letterbaglaw05.FoldJoined", spec := "foldJoined", inPlace := ["internal/bytealg.IndexByteString", "internal/bytealg.IndexString", "internal/abi.NoEscape", "internal/bytealg.MakeNoZero"], unfollowed := true, recurses := true, named := ["letterbag/fold.latin", "letterbag/fold.rows", "internal/bytealg.MaxLen"], apart := false, laid := [("letterbag/fold.latin", laid_letterbag_fold_latin), ("letterbag/fold.rows", laid_letterbag_fold_rows)] }
def FoldJoinedSaid : Prop := foldJoinedRow.holds Tryd.pinned (OpenSpec.ofChange foldJoinedSpec)

/-- ITS FALSE NEIGHBOUR: 'it returns false'. Refute it at one input. -/
def foldJoinedWrong : ChangeSpec := { name := "foldJoined", fn := fun _ => fun
  | [d1, d2, d3] => { results := [.lit (.bool false)], args := [d1, d2, d3] }
  | _ => none }
def FoldJoinedWrongFalsely : Prop := foldJoinedRow.holds Tryd.pinned (OpenSpec.ofChange foldJoinedWrong)

/-- 'letterbaglaw05.FoldCase': WHATEVER THE INPUT: true; the input reads as it did. -/
def foldCaseSpec : ChangeSpec := { name := "foldCase", fn := fun _ => fun
  | [d] => { results := [.lit (.bool true)], args := [d] }
  | _ => none }
def foldCaseRow : OpenClaim := { program := "ytoenaehkhdcdmaadoor", sum := "011da85399b21e930b8cf1604b4be3ecc0ff33f68294996a22dc5f6831c90cbf", func := "letterbag/letterbaglaw05.FoldCase", spec := "foldCase", unfollowed := true, recurses := true, named := ["letterbag/fold.latin", "letterbag/fold.rows"], apart := false, laid := [("letterbag/fold.latin", laid_letterbag_fold_latin), ("letterbag/fold.rows", laid_letterbag_fold_rows)] }
def FoldCaseSaid : Prop := foldCaseRow.holds Tryd.pinned (OpenSpec.ofChange foldCaseSpec)

/-- ITS FALSE NEIGHBOUR: 'it returns false'. Refute it at one input. -/
def foldCaseWrong : ChangeSpec := { name := "foldCase", fn := fun _ => fun
  | [d] => { results := [.lit (.bool false)], args := [d] }
  | _ => none }
def FoldCaseWrongFalsely : Prop := foldCaseRow.holds Tryd.pinned (OpenSpec.ofChange foldCaseWrong)

/-- 'letterbaglaw05.FoldBoth': WHATEVER THE INPUT: true; the input reads as it did. -/
def foldBothSpec : ChangeSpec := { name := "foldBoth", fn := fun _ => fun
  | [d1, d2, d3] => { results := [.lit (.bool true)], args := [d1, d2, d3] }
  | _ => none }
def foldBothRow : OpenClaim := { program := "ytoenaehkhdcdmaadoor", sum := "011da85399b21e930b8cf1604b4be3ecc0ff33f68294996a22dc5f6831c90cbf", func := "letterbag/letterbaglaw05.FoldBoth", spec := "foldBoth", unfollowed := true, recurses := true, named := ["letterbag/fold.latin", "letterbag/fold.rows"], apart := false, laid := [("letterbag/fold.latin", laid_letterbag_fold_latin), ("letterbag/fold.rows", laid_letterbag_fold_rows)] }
def FoldBothSaid : Prop := foldBothRow.holds Tryd.pinned (OpenSpec.ofChange foldBothSpec)

/-- ITS FALSE NEIGHBOUR: 'it returns false'. Refute it at one input. -/
def foldBothWrong : ChangeSpec := { name := "foldBoth", fn := fun _ => fun
  | [d1, d2, d3] => { results := [.lit (.bool false)], args := [d1, d2, d3] }
  | _ => none }
def FoldBothWrongFalsely : Prop := foldBothRow.holds Tryd.pinned (OpenSpec.ofChange foldBothWrong)

/- THE SECOND FORM. 'bulk': how many values and letters a reading holds, each counted each time it is reached (what is shared counts as often as it is met; a slice's spare places count too). A statement '..UptoSaid' is the law's where the arguments, and the package variables that the reading takes, are together of bulk at most 1048576: NARROWER than '..Said'. Prove '..Said' where nothing that the law and all that it calls make is longer than what came in: it says more and counts as full. Else prove '..UptoSaid'. A law counts once. -/
mutual
def uptoBulk {H : Type} : DataW H → Nat
  | .lit (.string bytes) => bytes.length + 1
  | .lit _ => 1
  | .nil => 1
  | .ptr d => uptoBulk d + 1
  | .slice elems spare => uptoBulkAll elems + uptoBulkAll spare + 1
  | .agg parts => uptoBulkAll parts + 1
  | .iface _ d => uptoBulk d + 1
  | .map entries => uptoBulkEntries entries + 1
  | .held _ => 1
def uptoBulkAll {H : Type} : List (DataW H) → Nat
  | [] => 0
  | d :: r => uptoBulk d + uptoBulkAll r
def uptoBulkEntries {H : Type} : List (Lit × DataW H) → Nat
  | [] => 0
  | x :: r => uptoBulkEntry x + uptoBulkEntries r
def uptoBulkEntry {H : Type} : Lit × DataW H → Nat
  | (.string bytes, d) => bytes.length + uptoBulk d + 1
  | (_, d) => uptoBulk d + 1
 end
def uptoSmall : (H : Type) → List (DataW H) → Bool := fun _ ds => decide (uptoBulkAll ds ≤ 1048576)
def OpenSpec.upto (s : _root_.Go.ChangeSpec) : _root_.Go.OpenSpec := { _root_.Go.OpenSpec.ofChange s with cond := some uptoSmall }

/-- 'letterbaglaw05.FoldSmall', WHERE WHAT IT READS IS OF BULK AT MOST 1048576: true; the input reads as it did. -/
def foldSmallUptoRow : OpenClaim := { program := "ytoenaehkhdcdmaadoor", sum := "011da85399b21e930b8cf1604b4be3ecc0ff33f68294996a22dc5f6831c90cbf", func := "letterbag/letterbaglaw05.FoldSmall", spec := "foldSmall", unfollowed := true, recurses := true, named := ["letterbag/fold.latin", "letterbag/fold.rows"], apart := false, laid := [("letterbag/fold.latin", laid_letterbag_fold_latin), ("letterbag/fold.rows", laid_letterbag_fold_rows)], narrowed := true }
def FoldSmallUptoSaid : Prop := foldSmallUptoRow.holds Tryd.pinned (OpenSpec.upto foldSmallSpec)

/-- 'letterbaglaw05.FoldTwice', WHERE WHAT IT READS IS OF BULK AT MOST 1048576: true; the input reads as it did. -/
def foldTwiceUptoRow : OpenClaim := { program := "ytoenaehkhdcdmaadoor", sum := "011da85399b21e930b8cf1604b4be3ecc0ff33f68294996a22dc5f6831c90cbf", func := "letterbag/letterbaglaw05.FoldTwice", spec := "foldTwice", unfollowed := true, recurses := true, named := ["letterbag/fold.latin", "letterbag/fold.rows"], apart := false, laid := [("letterbag/fold.latin", laid_letterbag_fold_latin), ("letterbag/fold.rows", laid_letterbag_fold_rows)], narrowed := true }
def FoldTwiceUptoSaid : Prop := foldTwiceUptoRow.holds Tryd.pinned (OpenSpec.upto foldTwiceSpec)

/-- 'letterbaglaw05.FoldJoined', WHERE WHAT IT READS IS OF BULK AT MOST 1048576: true; the input reads as it did. -/
def foldJoinedUptoRow : OpenClaim := { program := "ytoenaehkhdcdmaadoor", sum := "011da85399b21e930b8cf1604b4be3ecc0ff33f68294996a22dc5f6831c90cbf", func := "letterbag/letterbaglaw05.FoldJoined", spec := "foldJoined", inPlace := ["internal/bytealg.IndexByteString", "internal/bytealg.IndexString", "internal/abi.NoEscape", "internal/bytealg.MakeNoZero"], unfollowed := true, recurses := true, named := ["letterbag/fold.latin", "letterbag/fold.rows", "internal/bytealg.MaxLen"], apart := false, laid := [("letterbag/fold.latin", laid_letterbag_fold_latin), ("letterbag/fold.rows", laid_letterbag_fold_rows)], narrowed := true }
def FoldJoinedUptoSaid : Prop := foldJoinedUptoRow.holds Tryd.pinned (OpenSpec.upto foldJoinedSpec)

/-- 'letterbaglaw05.FoldCase', WHERE WHAT IT READS IS OF BULK AT MOST 1048576: true; the input reads as it did. -/
def foldCaseUptoRow : OpenClaim := { program := "ytoenaehkhdcdmaadoor", sum := "011da85399b21e930b8cf1604b4be3ecc0ff33f68294996a22dc5f6831c90cbf", func := "letterbag/letterbaglaw05.FoldCase", spec := "foldCase", unfollowed := true, recurses := true, named := ["letterbag/fold.latin", "letterbag/fold.rows"], apart := false, laid := [("letterbag/fold.latin", laid_letterbag_fold_latin), ("letterbag/fold.rows", laid_letterbag_fold_rows)], narrowed := true }
def FoldCaseUptoSaid : Prop := foldCaseUptoRow.holds Tryd.pinned (OpenSpec.upto foldCaseSpec)

/-- 'letterbaglaw05.FoldBoth', WHERE WHAT IT READS IS OF BULK AT MOST 1048576: true; the input reads as it did. -/
def foldBothUptoRow : OpenClaim := { program := "ytoenaehkhdcdmaadoor", sum := "011da85399b21e930b8cf1604b4be3ecc0ff33f68294996a22dc5f6831c90cbf", func := "letterbag/letterbaglaw05.FoldBoth", spec := "foldBoth", unfollowed := true, recurses := true, named := ["letterbag/fold.latin", "letterbag/fold.rows"], apart := false, laid := [("letterbag/fold.latin", laid_letterbag_fold_latin), ("letterbag/fold.rows", laid_letterbag_fold_rows)], narrowed := true }
def FoldBothUptoSaid : Prop := foldBothUptoRow.holds Tryd.pinned (OpenSpec.upto foldBothSpec)

end Rows
end Go.Proofs.YtoenaehkhdcdmaaDoor
