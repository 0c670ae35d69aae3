/-
  No cell of these rows narrows 'for every input' (looked for: loops, veiled, ifaces, maps, wideKeys, modest, calm, conditions, laid).
  DERIVED. THE GIVEN ROWS OF THIS SEAT. 11 by the template 'for every input the law returns true; each argument reads behind the call as it read before'; 0 by the template 'total and deterministic' (their statements: YtgbifcfdbelfpaaTotals.lean).
  GIVEN WITH THE SEED: the statements are not yours to turn. If you find one false, say at which input.
  Laid BY PROGRAM, IN A SANDBOX (cutbox-rows.mjs): the forced cells as the released guide's own fill.sh prints them over the translation 0769b4571ccb8060… (all of the seat's roots in one cut). By AI agents, Wed Nov 11 2026. No macro, syntax, notation, axiom, sorry.
-/
import Derived.Test.YtgbifcfdbelfpaaChecked
import GoSem.Claim
import GoSem.ClaimJoined
import GoSem.ClaimMapViews
import Derived.JoinedTies
import Derived.KernelRfl
namespace Go.Proofs.Ytgbifcfdbelfpaa
/- THE CELL 'sum', in the pinned program and in every row, IS THE sha256 OF THE DUMP (.gsa) THAT YtgbifcfdbelfpaaProg.lean LOADS. Nothing in Lean hashes anything: it is a label: what it is worth is what the hold of that sum in a sandbox is worth. -/
noncomputable def Try.pinned : Pinned := { name := "ytgbifcfdbelfpaa", sum := "0769b4571ccb8060fbf0b9bf2a7cd7d568ea0d4c662536fbfd6f25a4dc733cd5", checked := Try.checked }
namespace Rows
def none {H : Type} : Left H := { results := [], args := [] }

/-- 'letterbaglaw04.StatsTells': WHATEVER THE INPUT: true; the input reads as it did. -/
def statsTellsSpec : ChangeSpec := { name := "statsTells", fn := fun _ => fun
  | [d1, d2, d3] => { results := [.lit (.bool true)], args := [d1, d2, d3] }
  | _ => none }
def statsTellsRow : OpenClaim := { program := "ytgbifcfdbelfpaa", sum := "0769b4571ccb8060fbf0b9bf2a7cd7d568ea0d4c662536fbfd6f25a4dc733cd5", func := "letterbag/letterbaglaw04.StatsTells", spec := "statsTells", unfollowed := true, recurses := true, apart := false }
def StatsTellsSaid : Prop := statsTellsRow.holds Try.pinned (OpenSpec.ofChange statsTellsSpec)

/-- ITS FALSE NEIGHBOUR: 'it returns false'. Refute it at one input. -/
def statsTellsWrong : ChangeSpec := { name := "statsTells", fn := fun _ => fun
  | [d1, d2, d3] => { results := [.lit (.bool false)], args := [d1, d2, d3] }
  | _ => none }
def StatsTellsWrongFalsely : Prop := statsTellsRow.holds Try.pinned (OpenSpec.ofChange statsTellsWrong)

/-- 'letterbaglaw04.StatsBounds': WHATEVER THE INPUT: true; the input reads as it did. -/
def statsBoundsSpec : ChangeSpec := { name := "statsBounds", fn := fun _ => fun
  | [d1, d2, d3] => { results := [.lit (.bool true)], args := [d1, d2, d3] }
  | _ => none }
def statsBoundsRow : OpenClaim := { program := "ytgbifcfdbelfpaa", sum := "0769b4571ccb8060fbf0b9bf2a7cd7d568ea0d4c662536fbfd6f25a4dc733cd5", func := "letterbag/letterbaglaw04.StatsBounds", spec := "statsBounds", unfollowed := true, recurses := true, apart := false }
def StatsBoundsSaid : Prop := statsBoundsRow.holds Try.pinned (OpenSpec.ofChange statsBoundsSpec)

/-- ITS FALSE NEIGHBOUR: 'it returns false'. Refute it at one input. -/
def statsBoundsWrong : ChangeSpec := { name := "statsBounds", fn := fun _ => fun
  | [d1, d2, d3] => { results := [.lit (.bool false)], args := [d1, d2, d3] }
  | _ => none }
def StatsBoundsWrongFalsely : Prop := statsBoundsRow.holds Try.pinned (OpenSpec.ofChange statsBoundsWrong)

/-- 'letterbaglaw04.StatsQuantiles': WHATEVER THE INPUT: true; the input reads as it did. -/
def statsQuantilesSpec : ChangeSpec := { name := "statsQuantiles", fn := fun _ => fun
  | [d1, d2] => { results := [.lit (.bool true)], args := [d1, d2] }
  | _ => none }
def statsQuantilesRow : OpenClaim := { program := "ytgbifcfdbelfpaa", sum := "0769b4571ccb8060fbf0b9bf2a7cd7d568ea0d4c662536fbfd6f25a4dc733cd5", func := "letterbag/letterbaglaw04.StatsQuantiles", spec := "statsQuantiles", unfollowed := true, recurses := true, apart := false }
def StatsQuantilesSaid : Prop := statsQuantilesRow.holds Try.pinned (OpenSpec.ofChange statsQuantilesSpec)

/-- ITS FALSE NEIGHBOUR: 'it returns false'. Refute it at one input. -/
def statsQuantilesWrong : ChangeSpec := { name := "statsQuantiles", fn := fun _ => fun
  | [d1, d2] => { results := [.lit (.bool false)], args := [d1, d2] }
  | _ => none }
def StatsQuantilesWrongFalsely : Prop := statsQuantilesRow.holds Try.pinned (OpenSpec.ofChange statsQuantilesWrong)

/-- 'letterbaglaw04.StatsSmall': WHATEVER THE INPUT: true; the input reads as it did. -/
def statsSmallSpec : ChangeSpec := { name := "statsSmall", fn := fun _ => fun
  | [] => { results := [.lit (.bool true)], args := [] }
  | _ => none }
def statsSmallRow : OpenClaim := { program := "ytgbifcfdbelfpaa", sum := "0769b4571ccb8060fbf0b9bf2a7cd7d568ea0d4c662536fbfd6f25a4dc733cd5", func := "letterbag/letterbaglaw04.StatsSmall", spec := "statsSmall", unfollowed := true, recurses := true, apart := false }
def StatsSmallSaid : Prop := statsSmallRow.holds Try.pinned (OpenSpec.ofChange statsSmallSpec)

/-- ITS FALSE NEIGHBOUR: 'it returns false'. Refute it at one input. -/
def statsSmallWrong : ChangeSpec := { name := "statsSmall", fn := fun _ => fun
  | [] => { results := [.lit (.bool false)], args := [] }
  | _ => none }
def StatsSmallWrongFalsely : Prop := statsSmallRow.holds Try.pinned (OpenSpec.ofChange statsSmallWrong)

/-- 'letterbaglaw04.StatsCovers': WHATEVER THE INPUT: true; the input reads as it did. -/
def statsCoversSpec : ChangeSpec := { name := "statsCovers", fn := fun _ => fun
  | [d1, d2, d3] => { results := [.lit (.bool true)], args := [d1, d2, d3] }
  | _ => none }
def statsCoversRow : OpenClaim := { program := "ytgbifcfdbelfpaa", sum := "0769b4571ccb8060fbf0b9bf2a7cd7d568ea0d4c662536fbfd6f25a4dc733cd5", func := "letterbag/letterbaglaw04.StatsCovers", spec := "statsCovers", unfollowed := true, recurses := true, apart := false }
def StatsCoversSaid : Prop := statsCoversRow.holds Try.pinned (OpenSpec.ofChange statsCoversSpec)

/-- ITS FALSE NEIGHBOUR: 'it returns false'. Refute it at one input. -/
def statsCoversWrong : ChangeSpec := { name := "statsCovers", fn := fun _ => fun
  | [d1, d2, d3] => { results := [.lit (.bool false)], args := [d1, d2, d3] }
  | _ => none }
def StatsCoversWrongFalsely : Prop := statsCoversRow.holds Try.pinned (OpenSpec.ofChange statsCoversWrong)

/-- 'letterbaglaw04.StatsSums': WHATEVER THE INPUT: true; the input reads as it did. -/
def statsSumsSpec : ChangeSpec := { name := "statsSums", fn := fun _ => fun
  | [d1, d2, d3] => { results := [.lit (.bool true)], args := [d1, d2, d3] }
  | _ => none }
def statsSumsRow : OpenClaim := { program := "ytgbifcfdbelfpaa", sum := "0769b4571ccb8060fbf0b9bf2a7cd7d568ea0d4c662536fbfd6f25a4dc733cd5", func := "letterbag/letterbaglaw04.StatsSums", spec := "statsSums", unfollowed := true, recurses := true, apart := false }
def StatsSumsSaid : Prop := statsSumsRow.holds Try.pinned (OpenSpec.ofChange statsSumsSpec)

/-- ITS FALSE NEIGHBOUR: 'it returns false'. Refute it at one input. -/
def statsSumsWrong : ChangeSpec := { name := "statsSums", fn := fun _ => fun
  | [d1, d2, d3] => { results := [.lit (.bool false)], args := [d1, d2, d3] }
  | _ => none }
def StatsSumsWrongFalsely : Prop := statsSumsRow.holds Try.pinned (OpenSpec.ofChange statsSumsWrong)

/-- 'letterbaglaw04.StatsTurns': WHATEVER THE INPUT: true; the input reads as it did. -/
def statsTurnsSpec : ChangeSpec := { name := "statsTurns", fn := fun _ => fun
  | [d1, d2, d3, d4] => { results := [.lit (.bool true)], args := [d1, d2, d3, d4] }
  | _ => none }
def statsTurnsRow : OpenClaim := { program := "ytgbifcfdbelfpaa", sum := "0769b4571ccb8060fbf0b9bf2a7cd7d568ea0d4c662536fbfd6f25a4dc733cd5", func := "letterbag/letterbaglaw04.StatsTurns", spec := "statsTurns", unfollowed := true, recurses := true, apart := false }
def StatsTurnsSaid : Prop := statsTurnsRow.holds Try.pinned (OpenSpec.ofChange statsTurnsSpec)

/-- ITS FALSE NEIGHBOUR: 'it returns false'. Refute it at one input. -/
def statsTurnsWrong : ChangeSpec := { name := "statsTurns", fn := fun _ => fun
  | [d1, d2, d3, d4] => { results := [.lit (.bool false)], args := [d1, d2, d3, d4] }
  | _ => none }
def StatsTurnsWrongFalsely : Prop := statsTurnsRow.holds Try.pinned (OpenSpec.ofChange statsTurnsWrong)

/-- 'letterbaglaw04.StatsGrows': WHATEVER THE INPUT: true; the input reads as it did. -/
def statsGrowsSpec : ChangeSpec := { name := "statsGrows", fn := fun _ => fun
  | [d1, d2, d3, d4, d5] => { results := [.lit (.bool true)], args := [d1, d2, d3, d4, d5] }
  | _ => none }
def statsGrowsRow : OpenClaim := { program := "ytgbifcfdbelfpaa", sum := "0769b4571ccb8060fbf0b9bf2a7cd7d568ea0d4c662536fbfd6f25a4dc733cd5", func := "letterbag/letterbaglaw04.StatsGrows", spec := "statsGrows", unfollowed := true, recurses := true, apart := false }
def StatsGrowsSaid : Prop := statsGrowsRow.holds Try.pinned (OpenSpec.ofChange statsGrowsSpec)

/-- ITS FALSE NEIGHBOUR: 'it returns false'. Refute it at one input. -/
def statsGrowsWrong : ChangeSpec := { name := "statsGrows", fn := fun _ => fun
  | [d1, d2, d3, d4, d5] => { results := [.lit (.bool false)], args := [d1, d2, d3, d4, d5] }
  | _ => none }
def StatsGrowsWrongFalsely : Prop := statsGrowsRow.holds Try.pinned (OpenSpec.ofChange statsGrowsWrong)

/-- 'letterbaglaw04.StatsExact': WHATEVER THE INPUT: true; the input reads as it did. -/
def statsExactSpec : ChangeSpec := { name := "statsExact", fn := fun _ => fun
  | [d1, d2, d3] => { results := [.lit (.bool true)], args := [d1, d2, d3] }
  | _ => none }
def statsExactRow : OpenClaim := { program := "ytgbifcfdbelfpaa", sum := "0769b4571ccb8060fbf0b9bf2a7cd7d568ea0d4c662536fbfd6f25a4dc733cd5", func := "letterbag/letterbaglaw04.StatsExact", spec := "statsExact", unfollowed := true, recurses := true, apart := false }
def StatsExactSaid : Prop := statsExactRow.holds Try.pinned (OpenSpec.ofChange statsExactSpec)

/-- ITS FALSE NEIGHBOUR: 'it returns false'. Refute it at one input. -/
def statsExactWrong : ChangeSpec := { name := "statsExact", fn := fun _ => fun
  | [d1, d2, d3] => { results := [.lit (.bool false)], args := [d1, d2, d3] }
  | _ => none }
def StatsExactWrongFalsely : Prop := statsExactRow.holds Try.pinned (OpenSpec.ofChange statsExactWrong)

/-- 'letterbaglaw04.StatsRanks': WHATEVER THE INPUT: true; the input reads as it did. -/
def statsRanksSpec : ChangeSpec := { name := "statsRanks", fn := fun _ => fun
  | [d1, d2, d3] => { results := [.lit (.bool true)], args := [d1, d2, d3] }
  | _ => none }
def statsRanksRow : OpenClaim := { program := "ytgbifcfdbelfpaa", sum := "0769b4571ccb8060fbf0b9bf2a7cd7d568ea0d4c662536fbfd6f25a4dc733cd5", func := "letterbag/letterbaglaw04.StatsRanks", spec := "statsRanks", unfollowed := true, recurses := true, apart := false }
def StatsRanksSaid : Prop := statsRanksRow.holds Try.pinned (OpenSpec.ofChange statsRanksSpec)

/-- ITS FALSE NEIGHBOUR: 'it returns false'. Refute it at one input. -/
def statsRanksWrong : ChangeSpec := { name := "statsRanks", fn := fun _ => fun
  | [d1, d2, d3] => { results := [.lit (.bool false)], args := [d1, d2, d3] }
  | _ => none }
def StatsRanksWrongFalsely : Prop := statsRanksRow.holds Try.pinned (OpenSpec.ofChange statsRanksWrong)

/-- 'letterbaglaw04.StatsWrong': WHATEVER THE INPUT: true; the input reads as it did. -/
def statsWrongSpec : ChangeSpec := { name := "statsWrong", fn := fun _ => fun
  | [d1, d2] => { results := [.lit (.bool true)], args := [d1, d2] }
  | _ => none }
def statsWrongRow : OpenClaim := { program := "ytgbifcfdbelfpaa", sum := "0769b4571ccb8060fbf0b9bf2a7cd7d568ea0d4c662536fbfd6f25a4dc733cd5", func := "letterbag/letterbaglaw04.StatsWrong", spec := "statsWrong", unfollowed := true, recurses := true, apart := false }
def StatsWrongSaid : Prop := statsWrongRow.holds Try.pinned (OpenSpec.ofChange statsWrongSpec)

/-- ITS FALSE NEIGHBOUR: 'it returns false'. Refute it at one input. -/
def statsWrongWrong : ChangeSpec := { name := "statsWrong", fn := fun _ => fun
  | [d1, d2] => { results := [.lit (.bool false)], args := [d1, d2] }
  | _ => none }
def StatsWrongWrongFalsely : Prop := statsWrongRow.holds Try.pinned (OpenSpec.ofChange statsWrongWrong)

/- THE SECOND FORM. 'bulk': how many values and letters a reading holds, each counted each time it is reached (what is shared counts as often as it is met; a slice's spare places count too). A statement '..UptoSaid' is the law's where the arguments, and the package variables that the reading takes, are together of bulk at most 1048576: NARROWER than '..Said'. Prove '..Said' where nothing that the law and all that it calls make is longer than what came in: it says more and counts as full. Else prove '..UptoSaid'. A law counts once. -/
mutual
def uptoBulk {H : Type} : DataW H → Nat
  | .lit (.string bytes) => bytes.length + 1
  | .lit _ => 1
  | .nil => 1
  | .ptr d => uptoBulk d + 1
  | .slice elems spare => uptoBulkAll elems + uptoBulkAll spare + 1
  | .agg parts => uptoBulkAll parts + 1
  | .iface _ d => uptoBulk d + 1
  | .map entries => uptoBulkEntries entries + 1
  | .held _ => 1
def uptoBulkAll {H : Type} : List (DataW H) → Nat
  | [] => 0
  | d :: r => uptoBulk d + uptoBulkAll r
def uptoBulkEntries {H : Type} : List (Lit × DataW H) → Nat
  | [] => 0
  | x :: r => uptoBulkEntry x + uptoBulkEntries r
def uptoBulkEntry {H : Type} : Lit × DataW H → Nat
  | (.string bytes, d) => bytes.length + uptoBulk d + 1
  | (_, d) => uptoBulk d + 1
 end
def uptoSmall : (H : Type) → List (DataW H) → Bool := fun _ ds => decide (uptoBulkAll ds ≤ 1048576)
def OpenSpec.upto (s : _root_.Go.ChangeSpec) : _root_.Go.OpenSpec := { _root_.Go.OpenSpec.ofChange s with cond := some uptoSmall }

/-- 'letterbaglaw04.StatsTells', WHERE WHAT IT READS IS OF BULK AT MOST 1048576: true; the input reads as it did. -/
def statsTellsUptoRow : OpenClaim := { program := "ytgbifcfdbelfpaa", sum := "0769b4571ccb8060fbf0b9bf2a7cd7d568ea0d4c662536fbfd6f25a4dc733cd5", func := "letterbag/letterbaglaw04.StatsTells", spec := "statsTells", unfollowed := true, recurses := true, apart := false, narrowed := true }
def StatsTellsUptoSaid : Prop := statsTellsUptoRow.holds Try.pinned (OpenSpec.upto statsTellsSpec)

/-- 'letterbaglaw04.StatsBounds', WHERE WHAT IT READS IS OF BULK AT MOST 1048576: true; the input reads as it did. -/
def statsBoundsUptoRow : OpenClaim := { program := "ytgbifcfdbelfpaa", sum := "0769b4571ccb8060fbf0b9bf2a7cd7d568ea0d4c662536fbfd6f25a4dc733cd5", func := "letterbag/letterbaglaw04.StatsBounds", spec := "statsBounds", unfollowed := true, recurses := true, apart := false, narrowed := true }
def StatsBoundsUptoSaid : Prop := statsBoundsUptoRow.holds Try.pinned (OpenSpec.upto statsBoundsSpec)

/-- 'letterbaglaw04.StatsQuantiles', WHERE WHAT IT READS IS OF BULK AT MOST 1048576: true; the input reads as it did. -/
def statsQuantilesUptoRow : OpenClaim := { program := "ytgbifcfdbelfpaa", sum := "0769b4571ccb8060fbf0b9bf2a7cd7d568ea0d4c662536fbfd6f25a4dc733cd5", func := "letterbag/letterbaglaw04.StatsQuantiles", spec := "statsQuantiles", unfollowed := true, recurses := true, apart := false, narrowed := true }
def StatsQuantilesUptoSaid : Prop := statsQuantilesUptoRow.holds Try.pinned (OpenSpec.upto statsQuantilesSpec)

/-- 'letterbaglaw04.StatsSmall', WHERE WHAT IT READS IS OF BULK AT MOST 1048576: true; the input reads as it did. -/
def statsSmallUptoRow : OpenClaim := { program := "ytgbifcfdbelfpaa", sum := "0769b4571ccb8060fbf0b9bf2a7cd7d568ea0d4c662536fbfd6f25a4dc733cd5", func := "letterbag/letterbaglaw04.StatsSmall", spec := "statsSmall", unfollowed := true, recurses := true, apart := false, narrowed := true }
def StatsSmallUptoSaid : Prop := statsSmallUptoRow.holds Try.pinned (OpenSpec.upto statsSmallSpec)

/-- 'letterbaglaw04.StatsCovers', WHERE WHAT IT READS IS OF BULK AT MOST 1048576: true; the input reads as it did. -/
def statsCoversUptoRow : OpenClaim := { program := "ytgbifcfdbelfpaa", sum := "0769b4571ccb8060fbf0b9bf2a7cd7d568ea0d4c662536fbfd6f25a4dc733cd5", func := "letterbag/letterbaglaw04.StatsCovers", spec := "statsCovers", unfollowed := true, recurses := true, apart := false, narrowed := true }
def StatsCoversUptoSaid : Prop := statsCoversUptoRow.holds Try.pinned (OpenSpec.upto statsCoversSpec)

/-- 'letterbaglaw04.StatsSums', WHERE WHAT IT READS IS OF BULK AT MOST 1048576: true; the input reads as it did. -/
def statsSumsUptoRow : OpenClaim := { program := "ytgbifcfdbelfpaa", sum := "0769b4571ccb8060fbf0b9bf2a7cd7d568ea0d4c662536fbfd6f25a4dc733cd5", func := "letterbag/letterbaglaw04.StatsSums", spec := "statsSums", unfollowed := true, recurses := true, apart := false, narrowed := true }
def StatsSumsUptoSaid : Prop := statsSumsUptoRow.holds Try.pinned (OpenSpec.upto statsSumsSpec)

/-- 'letterbaglaw04.StatsTurns', WHERE WHAT IT READS IS OF BULK AT MOST 1048576: true; the input reads as it did. -/
def statsTurnsUptoRow : OpenClaim := { program := "ytgbifcfdbelfpaa", sum := "0769b4571ccb8060fbf0b9bf2a7cd7d568ea0d4c662536fbfd6f25a4dc733cd5", func := "letterbag/letterbaglaw04.StatsTurns", spec := "statsTurns", unfollowed := true, recurses := true, apart := false, narrowed := true }
def StatsTurnsUptoSaid : Prop := statsTurnsUptoRow.holds Try.pinned (OpenSpec.upto statsTurnsSpec)

/-- 'letterbaglaw04.StatsGrows', WHERE WHAT IT READS IS OF BULK AT MOST 1048576: true; the input reads as it did. -/
def statsGrowsUptoRow : OpenClaim := { program := "ytgbifcfdbelfpaa", sum := "0769b4571ccb8060fbf0b9bf2a7cd7d568ea0d4c662536fbfd6f25a4dc733cd5", func := "letterbag/letterbaglaw04.StatsGrows", spec := "statsGrows", unfollowed := true, recurses := true, apart := false, narrowed := true }
def StatsGrowsUptoSaid : Prop := statsGrowsUptoRow.holds Try.pinned (OpenSpec.upto statsGrowsSpec)

/-- 'letterbaglaw04.StatsExact', WHERE WHAT IT READS IS OF BULK AT MOST 1048576: true; the input reads as it did. -/
def statsExactUptoRow : OpenClaim := { program := "ytgbifcfdbelfpaa", sum := "0769b4571ccb8060fbf0b9bf2a7cd7d568ea0d4c662536fbfd6f25a4dc733cd5", func := "letterbag/letterbaglaw04.StatsExact", spec := "statsExact", unfollowed := true, recurses := true, apart := false, narrowed := true }
def StatsExactUptoSaid : Prop := statsExactUptoRow.holds Try.pinned (OpenSpec.upto statsExactSpec)

/-- 'letterbaglaw04.StatsRanks', WHERE WHAT IT READS IS OF BULK AT MOST 1048576: true; the input reads as it did. -/
def statsRanksUptoRow : OpenClaim := { program := "ytgbifcfdbelfpaa", sum := "0769b4571ccb8060fbf0b9bf2a7cd7d568ea0d4c662536fbfd6f25a4dc733cd5", func := "letterbag/letterbaglaw04.StatsRanks", spec := "statsRanks", unfollowed := true, recurses := true, apart := false, narrowed := true }
def StatsRanksUptoSaid : Prop := statsRanksUptoRow.holds Try.pinned (OpenSpec.upto statsRanksSpec)

/-- 'letterbaglaw04.StatsWrong', WHERE WHAT IT READS IS OF BULK AT MOST 1048576: true; the input reads as it did. -/
def statsWrongUptoRow : OpenClaim := { program := "ytgbifcfdbelfpaa", sum := "0769b4571ccb8060fbf0b9bf2a7cd7d568ea0d4c662536fbfd6f25a4dc733cd5", func := "letterbag/letterbaglaw04.StatsWrong", spec := "statsWrong", unfollowed := true, recurses := true, apart := false, narrowed := true }
def StatsWrongUptoSaid : Prop := statsWrongUptoRow.holds Try.pinned (OpenSpec.upto statsWrongSpec)

end Rows
end Go.Proofs.Ytgbifcfdbelfpaa
