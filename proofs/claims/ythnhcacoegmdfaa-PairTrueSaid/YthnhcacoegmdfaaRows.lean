/-
  No cell of these rows narrows 'for every input' (looked for: loops, veiled, ifaces, maps, wideKeys, modest, calm, conditions, laid).
  DERIVED. THE GIVEN ROWS OF THIS SEAT. 8 by the template 'for every input the law returns true; each argument reads behind the call as it read before'; 0 by the template 'total and deterministic' (their statements: YthnhcacoegmdfaaTotals.lean).
  GIVEN WITH THE SEED: the statements are not yours to turn. If you find one false, say at which input.
  Laid BY PROGRAM, IN A SANDBOX (cutbox-rows.mjs): the forced cells as the released guide's own fill.sh prints them over the translation 3615af62ece13b60… (all of the seat's roots in one cut). By AI agents, Wed Nov 11 2026. No macro, syntax, notation, axiom, sorry.
-/
import Derived.Test.YthnhcacoegmdfaaChecked
import GoSem.Claim
import GoSem.ClaimJoined
import GoSem.ClaimMapViews
import Derived.JoinedTies
import Derived.KernelRfl
namespace Go.Proofs.Ythnhcacoegmdfaa
/- THE CELL 'sum', in the pinned program and in every row, IS THE sha256 OF THE DUMP (.gsa) THAT YthnhcacoegmdfaaProg.lean LOADS. Nothing in Lean hashes anything: it is a label: what it is worth is what the hold of that sum in a sandbox is worth. -/
noncomputable def Try.pinned : Pinned := { name := "ythnhcacoegmdfaa", sum := "3615af62ece13b608af186f51b3998550641651acc7aeb43a0ace98e562b1ea6", checked := Try.checked }
namespace Rows
def none {H : Type} : Left H := { results := [], args := [] }

/-- 'blockworkslaw03.PairNames': WHATEVER THE INPUT: true; the input reads as it did. -/
def pairNamesSpec : ChangeSpec := { name := "pairNames", fn := fun _ => fun
  | [] => { results := [.lit (.bool true)], args := [] }
  | _ => none }
def pairNamesRow : OpenClaim := { program := "ythnhcacoegmdfaa", sum := "3615af62ece13b608af186f51b3998550641651acc7aeb43a0ace98e562b1ea6", func := "blockworks/blockworkslaw03.PairNames", spec := "pairNames", unfollowed := true, recurses := true, plainKeys := false, apart := false }
def PairNamesSaid : Prop := pairNamesRow.holds Try.pinned (OpenSpec.ofChange pairNamesSpec)

/-- ITS FALSE NEIGHBOUR: 'it returns false'. Refute it at one input. -/
def pairNamesWrong : ChangeSpec := { name := "pairNames", fn := fun _ => fun
  | [] => { results := [.lit (.bool false)], args := [] }
  | _ => none }
def PairNamesWrongFalsely : Prop := pairNamesRow.holds Try.pinned (OpenSpec.ofChange pairNamesWrong)

/-- 'blockworkslaw03.PairTrue': WHATEVER THE INPUT: true; the input reads as it did. -/
def pairTrueSpec : ChangeSpec := { name := "pairTrue", fn := fun _ => fun
  | [d] => { results := [.lit (.bool true)], args := [d] }
  | _ => none }
def pairTrueRow : OpenClaim := { program := "ythnhcacoegmdfaa", sum := "3615af62ece13b608af186f51b3998550641651acc7aeb43a0ace98e562b1ea6", func := "blockworks/blockworkslaw03.PairTrue", spec := "pairTrue", unfollowed := true, recurses := true, plainKeys := false, apart := false }
def PairTrueSaid : Prop := pairTrueRow.holds Try.pinned (OpenSpec.ofChange pairTrueSpec)

/-- ITS FALSE NEIGHBOUR: 'it returns false'. Refute it at one input. -/
def pairTrueWrong : ChangeSpec := { name := "pairTrue", fn := fun _ => fun
  | [d] => { results := [.lit (.bool false)], args := [d] }
  | _ => none }
def PairTrueWrongFalsely : Prop := pairTrueRow.holds Try.pinned (OpenSpec.ofChange pairTrueWrong)

/-- 'blockworkslaw03.PairEnds': WHATEVER THE INPUT: true; the input reads as it did. -/
def pairEndsSpec : ChangeSpec := { name := "pairEnds", fn := fun _ => fun
  | [d1, d2, d3] => { results := [.lit (.bool true)], args := [d1, d2, d3] }
  | _ => none }
def pairEndsRow : OpenClaim := { program := "ythnhcacoegmdfaa", sum := "3615af62ece13b608af186f51b3998550641651acc7aeb43a0ace98e562b1ea6", func := "blockworks/blockworkslaw03.PairEnds", spec := "pairEnds", unfollowed := true, recurses := true, plainKeys := false, apart := false }
def PairEndsSaid : Prop := pairEndsRow.holds Try.pinned (OpenSpec.ofChange pairEndsSpec)

/-- ITS FALSE NEIGHBOUR: 'it returns false'. Refute it at one input. -/
def pairEndsWrong : ChangeSpec := { name := "pairEnds", fn := fun _ => fun
  | [d1, d2, d3] => { results := [.lit (.bool false)], args := [d1, d2, d3] }
  | _ => none }
def PairEndsWrongFalsely : Prop := pairEndsRow.holds Try.pinned (OpenSpec.ofChange pairEndsWrong)

/-- 'blockworkslaw03.PairShows': WHATEVER THE INPUT: true; the input reads as it did. -/
def pairShowsSpec : ChangeSpec := { name := "pairShows", fn := fun _ => fun
  | [d1, d2] => { results := [.lit (.bool true)], args := [d1, d2] }
  | _ => none }
def pairShowsRow : OpenClaim := { program := "ythnhcacoegmdfaa", sum := "3615af62ece13b608af186f51b3998550641651acc7aeb43a0ace98e562b1ea6", func := "blockworks/blockworkslaw03.PairShows", spec := "pairShows", unfollowed := true, recurses := true, plainKeys := false, apart := false }
def PairShowsSaid : Prop := pairShowsRow.holds Try.pinned (OpenSpec.ofChange pairShowsSpec)

/-- ITS FALSE NEIGHBOUR: 'it returns false'. Refute it at one input. -/
def pairShowsWrong : ChangeSpec := { name := "pairShows", fn := fun _ => fun
  | [d1, d2] => { results := [.lit (.bool false)], args := [d1, d2] }
  | _ => none }
def PairShowsWrongFalsely : Prop := pairShowsRow.holds Try.pinned (OpenSpec.ofChange pairShowsWrong)

/-- 'blockworkslaw03.PairLongest': WHATEVER THE INPUT: true; the input reads as it did. -/
def pairLongestSpec : ChangeSpec := { name := "pairLongest", fn := fun _ => fun
  | [d1, d2, d3] => { results := [.lit (.bool true)], args := [d1, d2, d3] }
  | _ => none }
def pairLongestRow : OpenClaim := { program := "ythnhcacoegmdfaa", sum := "3615af62ece13b608af186f51b3998550641651acc7aeb43a0ace98e562b1ea6", func := "blockworks/blockworkslaw03.PairLongest", spec := "pairLongest", unfollowed := true, recurses := true, plainKeys := false, apart := false }
def PairLongestSaid : Prop := pairLongestRow.holds Try.pinned (OpenSpec.ofChange pairLongestSpec)

/-- ITS FALSE NEIGHBOUR: 'it returns false'. Refute it at one input. -/
def pairLongestWrong : ChangeSpec := { name := "pairLongest", fn := fun _ => fun
  | [d1, d2, d3] => { results := [.lit (.bool false)], args := [d1, d2, d3] }
  | _ => none }
def PairLongestWrongFalsely : Prop := pairLongestRow.holds Try.pinned (OpenSpec.ofChange pairLongestWrong)

/-- 'blockworkslaw03.PairGroups': WHATEVER THE INPUT: true; the input reads as it did. -/
def pairGroupsSpec : ChangeSpec := { name := "pairGroups", fn := fun _ => fun
  | [d1, d2, d3] => { results := [.lit (.bool true)], args := [d1, d2, d3] }
  | _ => none }
def pairGroupsRow : OpenClaim := { program := "ythnhcacoegmdfaa", sum := "3615af62ece13b608af186f51b3998550641651acc7aeb43a0ace98e562b1ea6", func := "blockworks/blockworkslaw03.PairGroups", spec := "pairGroups", unfollowed := true, recurses := true, plainKeys := false, apart := false }
def PairGroupsSaid : Prop := pairGroupsRow.holds Try.pinned (OpenSpec.ofChange pairGroupsSpec)

/-- ITS FALSE NEIGHBOUR: 'it returns false'. Refute it at one input. -/
def pairGroupsWrong : ChangeSpec := { name := "pairGroups", fn := fun _ => fun
  | [d1, d2, d3] => { results := [.lit (.bool false)], args := [d1, d2, d3] }
  | _ => none }
def PairGroupsWrongFalsely : Prop := pairGroupsRow.holds Try.pinned (OpenSpec.ofChange pairGroupsWrong)

/-- 'blockworkslaw03.PairClash': WHATEVER THE INPUT: true; the input reads as it did. -/
def pairClashSpec : ChangeSpec := { name := "pairClash", fn := fun _ => fun
  | [d1, d2] => { results := [.lit (.bool true)], args := [d1, d2] }
  | _ => none }
def pairClashRow : OpenClaim := { program := "ythnhcacoegmdfaa", sum := "3615af62ece13b608af186f51b3998550641651acc7aeb43a0ace98e562b1ea6", func := "blockworks/blockworkslaw03.PairClash", spec := "pairClash", unfollowed := true, recurses := true, plainKeys := false, apart := false }
def PairClashSaid : Prop := pairClashRow.holds Try.pinned (OpenSpec.ofChange pairClashSpec)

/-- ITS FALSE NEIGHBOUR: 'it returns false'. Refute it at one input. -/
def pairClashWrong : ChangeSpec := { name := "pairClash", fn := fun _ => fun
  | [d1, d2] => { results := [.lit (.bool false)], args := [d1, d2] }
  | _ => none }
def PairClashWrongFalsely : Prop := pairClashRow.holds Try.pinned (OpenSpec.ofChange pairClashWrong)

/-- 'blockworkslaw03.PairMore': WHATEVER THE INPUT: true; the input reads as it did. -/
def pairMoreSpec : ChangeSpec := { name := "pairMore", fn := fun _ => fun
  | [d1, d2, d3, d4, d5] => { results := [.lit (.bool true)], args := [d1, d2, d3, d4, d5] }
  | _ => none }
def pairMoreRow : OpenClaim := { program := "ythnhcacoegmdfaa", sum := "3615af62ece13b608af186f51b3998550641651acc7aeb43a0ace98e562b1ea6", func := "blockworks/blockworkslaw03.PairMore", spec := "pairMore", unfollowed := true, recurses := true, plainKeys := false, apart := false }
def PairMoreSaid : Prop := pairMoreRow.holds Try.pinned (OpenSpec.ofChange pairMoreSpec)

/-- ITS FALSE NEIGHBOUR: 'it returns false'. Refute it at one input. -/
def pairMoreWrong : ChangeSpec := { name := "pairMore", fn := fun _ => fun
  | [d1, d2, d3, d4, d5] => { results := [.lit (.bool false)], args := [d1, d2, d3, d4, d5] }
  | _ => none }
def PairMoreWrongFalsely : Prop := pairMoreRow.holds Try.pinned (OpenSpec.ofChange pairMoreWrong)

/- THE SECOND FORM. 'bulk': how many values and letters a reading holds, each counted each time it is reached (what is shared counts as often as it is met; a slice's spare places count too). A statement '..UptoSaid' is the law's where the arguments, and the package variables that the reading takes, are together of bulk at most 1048576: NARROWER than '..Said'. Prove '..Said' where nothing that the law and all that it calls make is longer than what came in: it says more and counts as full. Else prove '..UptoSaid'. A law counts once. -/
mutual
def uptoBulk {H : Type} : DataW H → Nat
  | .lit (.string bytes) => bytes.length + 1
  | .lit _ => 1
  | .nil => 1
  | .ptr d => uptoBulk d + 1
  | .slice elems spare => uptoBulkAll elems + uptoBulkAll spare + 1
  | .agg parts => uptoBulkAll parts + 1
  | .iface _ d => uptoBulk d + 1
  | .map entries => uptoBulkEntries entries + 1
  | .held _ => 1
def uptoBulkAll {H : Type} : List (DataW H) → Nat
  | [] => 0
  | d :: r => uptoBulk d + uptoBulkAll r
def uptoBulkEntries {H : Type} : List (Lit × DataW H) → Nat
  | [] => 0
  | x :: r => uptoBulkEntry x + uptoBulkEntries r
def uptoBulkEntry {H : Type} : Lit × DataW H → Nat
  | (.string bytes, d) => bytes.length + uptoBulk d + 1
  | (_, d) => uptoBulk d + 1
 end
def uptoSmall : (H : Type) → List (DataW H) → Bool := fun _ ds => decide (uptoBulkAll ds ≤ 1048576)
def OpenSpec.upto (s : _root_.Go.ChangeSpec) : _root_.Go.OpenSpec := { _root_.Go.OpenSpec.ofChange s with cond := some uptoSmall }

/-- 'blockworkslaw03.PairNames', WHERE WHAT IT READS IS OF BULK AT MOST 1048576: true; the input reads as it did. -/
def pairNamesUptoRow : OpenClaim := { program := "ythnhcacoegmdfaa", sum := "3615af62ece13b608af186f51b3998550641651acc7aeb43a0ace98e562b1ea6", func := "blockworks/blockworkslaw03.PairNames", spec := "pairNames", unfollowed := true, recurses := true, plainKeys := false, apart := false, narrowed := true }
def PairNamesUptoSaid : Prop := pairNamesUptoRow.holds Try.pinned (OpenSpec.upto pairNamesSpec)

/-- 'blockworkslaw03.PairTrue', WHERE WHAT IT READS IS OF BULK AT MOST 1048576: true; the input reads as it did. -/
def pairTrueUptoRow : OpenClaim := { program := "ythnhcacoegmdfaa", sum := "3615af62ece13b608af186f51b3998550641651acc7aeb43a0ace98e562b1ea6", func := "blockworks/blockworkslaw03.PairTrue", spec := "pairTrue", unfollowed := true, recurses := true, plainKeys := false, apart := false, narrowed := true }
def PairTrueUptoSaid : Prop := pairTrueUptoRow.holds Try.pinned (OpenSpec.upto pairTrueSpec)

/-- 'blockworkslaw03.PairEnds', WHERE WHAT IT READS IS OF BULK AT MOST 1048576: true; the input reads as it did. -/
def pairEndsUptoRow : OpenClaim := { program := "ythnhcacoegmdfaa", sum := "3615af62ece13b608af186f51b3998550641651acc7aeb43a0ace98e562b1ea6", func := "blockworks/blockworkslaw03.PairEnds", spec := "pairEnds", unfollowed := true, recurses := true, plainKeys := false, apart := false, narrowed := true }
def PairEndsUptoSaid : Prop := pairEndsUptoRow.holds Try.pinned (OpenSpec.upto pairEndsSpec)

/-- 'blockworkslaw03.PairShows', WHERE WHAT IT READS IS OF BULK AT MOST 1048576: true; the input reads as it did. -/
def pairShowsUptoRow : OpenClaim := { program := "ythnhcacoegmdfaa", sum := "3615af62ece13b608af186f51b3998550641651acc7aeb43a0ace98e562b1ea6", func := "blockworks/blockworkslaw03.PairShows", spec := "pairShows", unfollowed := true, recurses := true, plainKeys := false, apart := false, narrowed := true }
def PairShowsUptoSaid : Prop := pairShowsUptoRow.holds Try.pinned (OpenSpec.upto pairShowsSpec)

/-- 'blockworkslaw03.PairLongest', WHERE WHAT IT READS IS OF BULK AT MOST 1048576: true; the input reads as it did. -/
def pairLongestUptoRow : OpenClaim := { program := "ythnhcacoegmdfaa", sum := "3615af62ece13b608af186f51b3998550641651acc7aeb43a0ace98e562b1ea6", func := "blockworks/blockworkslaw03.PairLongest", spec := "pairLongest", unfollowed := true, recurses := true, plainKeys := false, apart := false, narrowed := true }
def PairLongestUptoSaid : Prop := pairLongestUptoRow.holds Try.pinned (OpenSpec.upto pairLongestSpec)

/-- 'blockworkslaw03.PairGroups', WHERE WHAT IT READS IS OF BULK AT MOST 1048576: true; the input reads as it did. -/
def pairGroupsUptoRow : OpenClaim := { program := "ythnhcacoegmdfaa", sum := "3615af62ece13b608af186f51b3998550641651acc7aeb43a0ace98e562b1ea6", func := "blockworks/blockworkslaw03.PairGroups", spec := "pairGroups", unfollowed := true, recurses := true, plainKeys := false, apart := false, narrowed := true }
def PairGroupsUptoSaid : Prop := pairGroupsUptoRow.holds Try.pinned (OpenSpec.upto pairGroupsSpec)

/-- 'blockworkslaw03.PairClash', WHERE WHAT IT READS IS OF BULK AT MOST 1048576: true; the input reads as it did. -/
def pairClashUptoRow : OpenClaim := { program := "ythnhcacoegmdfaa", sum := "3615af62ece13b608af186f51b3998550641651acc7aeb43a0ace98e562b1ea6", func := "blockworks/blockworkslaw03.PairClash", spec := "pairClash", unfollowed := true, recurses := true, plainKeys := false, apart := false, narrowed := true }
def PairClashUptoSaid : Prop := pairClashUptoRow.holds Try.pinned (OpenSpec.upto pairClashSpec)

/-- 'blockworkslaw03.PairMore', WHERE WHAT IT READS IS OF BULK AT MOST 1048576: true; the input reads as it did. -/
def pairMoreUptoRow : OpenClaim := { program := "ythnhcacoegmdfaa", sum := "3615af62ece13b608af186f51b3998550641651acc7aeb43a0ace98e562b1ea6", func := "blockworks/blockworkslaw03.PairMore", spec := "pairMore", unfollowed := true, recurses := true, plainKeys := false, apart := false, narrowed := true }
def PairMoreUptoSaid : Prop := pairMoreUptoRow.holds Try.pinned (OpenSpec.upto pairMoreSpec)

end Rows
end Go.Proofs.Ythnhcacoegmdfaa
