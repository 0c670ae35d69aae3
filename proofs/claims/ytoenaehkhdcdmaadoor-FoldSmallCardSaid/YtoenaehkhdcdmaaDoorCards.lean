/-
  DERIVED. GIVEN WITH THE SEED: THE CARDS: each row of YtoenaehkhdcdmaaDoorRows.lean that lists a variable, with what it lists TIED to the program's text (the seventh form; the later family's looks); each row that meets fmt, with fmt's text TOLD by the authors' own Lean function (tested against real Go, not proved from fmt's source: count such statements apart). THE CARD IS WHAT COUNTS. Prove the row's statement (the work); the ties are given (YtoenaehkhdcdmaaDoorTie.lean); close each card by the builder's one call (the guide's Derived/Test/ToyasCard.lean, 'card_holds'). Laid BY PROGRAM, IN A SANDBOX (cutbox-door.mjs). By AI agents, Wed Nov 11 2026. No macro, syntax, notation, axiom, sorry.
-/
import Derived.Test.YtoenaehkhdcdmaaDoorRows
import GoSem.ClaimSeven
namespace Go.Proofs.YtoenaehkhdcdmaaDoor
namespace Rows

/-- THE TIED CARD OF 'letterbaglaw05.FoldSmall'. -/
def foldSmallCard : Claim7 := { stood := { row := foldSmallRow, standIns := [], harness := (true, "19386b765c425faafe0234a6ca878ddf951fd87792a221a2e90099c1e171400f"), looks := false }, kinds := [], alts := [], laidByText := true, laidKinds := [.data, .data], laidTests := true, laidLooks := .later }
def FoldSmallCardSaid : Prop := Claim7.holds Tryd.pinned (.plain (OpenSpec.ofChange foldSmallSpec)) foldSmallCard

/-- THE TIED CARD OF 'letterbaglaw05.FoldTwice'. -/
def foldTwiceCard : Claim7 := { stood := { row := foldTwiceRow, standIns := [], harness := (true, "19386b765c425faafe0234a6ca878ddf951fd87792a221a2e90099c1e171400f"), looks := false }, kinds := [], alts := [], laidByText := true, laidKinds := [.data, .data], laidTests := true, laidLooks := .later }
def FoldTwiceCardSaid : Prop := Claim7.holds Tryd.pinned (.plain (OpenSpec.ofChange foldTwiceSpec)) foldTwiceCard

/-- THE TIED CARD OF 'letterbaglaw05.FoldJoined'. -/
def foldJoinedCard : Claim7 := { stood := { row := foldJoinedRow, standIns := [], harness := (true, "19386b765c425faafe0234a6ca878ddf951fd87792a221a2e90099c1e171400f"), looks := false }, kinds := [], alts := [], laidByText := true, laidKinds := [.data, .data], laidTests := true, laidLooks := .later }
def FoldJoinedCardSaid : Prop := Claim7.holds Tryd.pinned (.plain (OpenSpec.ofChange foldJoinedSpec)) foldJoinedCard

/-- THE TIED CARD OF 'letterbaglaw05.FoldCase'. -/
def foldCaseCard : Claim7 := { stood := { row := foldCaseRow, standIns := [], harness := (true, "19386b765c425faafe0234a6ca878ddf951fd87792a221a2e90099c1e171400f"), looks := false }, kinds := [], alts := [], laidByText := true, laidKinds := [.data, .data], laidTests := true, laidLooks := .later }
def FoldCaseCardSaid : Prop := Claim7.holds Tryd.pinned (.plain (OpenSpec.ofChange foldCaseSpec)) foldCaseCard

/-- THE TIED CARD OF 'letterbaglaw05.FoldBoth'. -/
def foldBothCard : Claim7 := { stood := { row := foldBothRow, standIns := [], harness := (true, "19386b765c425faafe0234a6ca878ddf951fd87792a221a2e90099c1e171400f"), looks := false }, kinds := [], alts := [], laidByText := true, laidKinds := [.data, .data], laidTests := true, laidLooks := .later }
def FoldBothCardSaid : Prop := Claim7.holds Tryd.pinned (.plain (OpenSpec.ofChange foldBothSpec)) foldBothCard

/-- THE SECOND FORM's CARD OF 'letterbaglaw05.FoldSmall'. -/
def foldSmallUptoCard : Claim7 := { stood := { row := foldSmallUptoRow, standIns := [], harness := (true, "19386b765c425faafe0234a6ca878ddf951fd87792a221a2e90099c1e171400f"), looks := false }, kinds := [], alts := [], laidByText := true, laidKinds := [.data, .data], laidTests := true, laidLooks := .later }
def FoldSmallUptoCardSaid : Prop := Claim7.holds Tryd.pinned (.plain (OpenSpec.upto foldSmallSpec)) foldSmallUptoCard

/-- THE SECOND FORM's CARD OF 'letterbaglaw05.FoldTwice'. -/
def foldTwiceUptoCard : Claim7 := { stood := { row := foldTwiceUptoRow, standIns := [], harness := (true, "19386b765c425faafe0234a6ca878ddf951fd87792a221a2e90099c1e171400f"), looks := false }, kinds := [], alts := [], laidByText := true, laidKinds := [.data, .data], laidTests := true, laidLooks := .later }
def FoldTwiceUptoCardSaid : Prop := Claim7.holds Tryd.pinned (.plain (OpenSpec.upto foldTwiceSpec)) foldTwiceUptoCard

/-- THE SECOND FORM's CARD OF 'letterbaglaw05.FoldJoined'. -/
def foldJoinedUptoCard : Claim7 := { stood := { row := foldJoinedUptoRow, standIns := [], harness := (true, "19386b765c425faafe0234a6ca878ddf951fd87792a221a2e90099c1e171400f"), looks := false }, kinds := [], alts := [], laidByText := true, laidKinds := [.data, .data], laidTests := true, laidLooks := .later }
def FoldJoinedUptoCardSaid : Prop := Claim7.holds Tryd.pinned (.plain (OpenSpec.upto foldJoinedSpec)) foldJoinedUptoCard

/-- THE SECOND FORM's CARD OF 'letterbaglaw05.FoldCase'. -/
def foldCaseUptoCard : Claim7 := { stood := { row := foldCaseUptoRow, standIns := [], harness := (true, "19386b765c425faafe0234a6ca878ddf951fd87792a221a2e90099c1e171400f"), looks := false }, kinds := [], alts := [], laidByText := true, laidKinds := [.data, .data], laidTests := true, laidLooks := .later }
def FoldCaseUptoCardSaid : Prop := Claim7.holds Tryd.pinned (.plain (OpenSpec.upto foldCaseSpec)) foldCaseUptoCard

/-- THE SECOND FORM's CARD OF 'letterbaglaw05.FoldBoth'. -/
def foldBothUptoCard : Claim7 := { stood := { row := foldBothUptoRow, standIns := [], harness := (true, "19386b765c425faafe0234a6ca878ddf951fd87792a221a2e90099c1e171400f"), looks := false }, kinds := [], alts := [], laidByText := true, laidKinds := [.data, .data], laidTests := true, laidLooks := .later }
def FoldBothUptoCardSaid : Prop := Claim7.holds Tryd.pinned (.plain (OpenSpec.upto foldBothSpec)) foldBothUptoCard
end Rows
end Go.Proofs.YtoenaehkhdcdmaaDoor
