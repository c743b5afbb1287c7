/-
  No cell of these rows narrows 'for every input' (looked for: loops, veiled, ifaces, maps, wideKeys, modest, calm, conditions, laid).
  DERIVED. THE GIVEN ROWS OF THIS SEAT. 7 by the template 'for every input the law returns true; each argument reads behind the call as it read before'; 0 by the template 'total and deterministic' (their statements: YtfjfkaaflghaiaaTotals.lean).
  GIVEN WITH THE SEED: the statements are not yours to turn. If you find one false, say at which input.
  Laid BY PROGRAM, IN A SANDBOX (cutbox-rows.mjs): the forced cells as the released guide's own fill.sh prints them over the translation 5731943f3e37bb23… (all of the seat's roots in one cut). By AI agents, Wed Nov 11 2026. No macro, syntax, notation, axiom, sorry.
-/
import Derived.Test.YtfjfkaaflghaiaaChecked
import GoSem.Claim
import GoSem.ClaimJoined
import GoSem.ClaimMapViews
import Derived.JoinedTies
import Derived.KernelRfl
namespace Go.Proofs.Ytfjfkaaflghaiaa
/- THE CELL 'sum', in the pinned program and in every row, IS THE sha256 OF THE DUMP (.gsa) THAT YtfjfkaaflghaiaaProg.lean LOADS. Nothing in Lean hashes anything: it is a label: what it is worth is what the hold of that sum in a sandbox is worth. -/
noncomputable def Try.pinned : Pinned := { name := "ytfjfkaaflghaiaa", sum := "5731943f3e37bb239752140550643bd0dcd5583f7fee871fb899903d16d548f7", checked := Try.checked }
namespace Rows
def none {H : Type} : Left H := { results := [], args := [] }

/-- 'blockworkslaw09.SettleNames': WHATEVER THE INPUT: true; the input reads as it did. -/
def settleNamesSpec : ChangeSpec := { name := "settleNames", fn := fun _ => fun
  | [] => { results := [.lit (.bool true)], args := [] }
  | _ => none }
def settleNamesRow : OpenClaim := { program := "ytfjfkaaflghaiaa", sum := "5731943f3e37bb239752140550643bd0dcd5583f7fee871fb899903d16d548f7", func := "blockworks/blockworkslaw09.SettleNames", spec := "settleNames", unfollowed := true, recurses := true, plainKeys := false, apart := false }
def SettleNamesSaid : Prop := settleNamesRow.holds Try.pinned (OpenSpec.ofChange settleNamesSpec)

/-- ITS FALSE NEIGHBOUR: 'it returns false'. Refute it at one input. -/
def settleNamesWrong : ChangeSpec := { name := "settleNames", fn := fun _ => fun
  | [] => { results := [.lit (.bool false)], args := [] }
  | _ => none }
def SettleNamesWrongFalsely : Prop := settleNamesRow.holds Try.pinned (OpenSpec.ofChange settleNamesWrong)

/-- 'blockworkslaw09.SettleTrue': WHATEVER THE INPUT: true; the input reads as it did. -/
def settleTrueSpec : ChangeSpec := { name := "settleTrue", fn := fun _ => fun
  | [d1, d2, d3] => { results := [.lit (.bool true)], args := [d1, d2, d3] }
  | _ => none }
def settleTrueRow : OpenClaim := { program := "ytfjfkaaflghaiaa", sum := "5731943f3e37bb239752140550643bd0dcd5583f7fee871fb899903d16d548f7", func := "blockworks/blockworkslaw09.SettleTrue", spec := "settleTrue", unfollowed := true, recurses := true, plainKeys := false, apart := false }
def SettleTrueSaid : Prop := settleTrueRow.holds Try.pinned (OpenSpec.ofChange settleTrueSpec)

/-- ITS FALSE NEIGHBOUR: 'it returns false'. Refute it at one input. -/
def settleTrueWrong : ChangeSpec := { name := "settleTrue", fn := fun _ => fun
  | [d1, d2, d3] => { results := [.lit (.bool false)], args := [d1, d2, d3] }
  | _ => none }
def SettleTrueWrongFalsely : Prop := settleTrueRow.holds Try.pinned (OpenSpec.ofChange settleTrueWrong)

/-- 'blockworkslaw09.SettleEnds': WHATEVER THE INPUT: true; the input reads as it did. -/
def settleEndsSpec : ChangeSpec := { name := "settleEnds", fn := fun _ => fun
  | [d1, d2, d3] => { results := [.lit (.bool true)], args := [d1, d2, d3] }
  | _ => none }
def settleEndsRow : OpenClaim := { program := "ytfjfkaaflghaiaa", sum := "5731943f3e37bb239752140550643bd0dcd5583f7fee871fb899903d16d548f7", func := "blockworks/blockworkslaw09.SettleEnds", spec := "settleEnds", unfollowed := true, recurses := true, plainKeys := false, apart := false }
def SettleEndsSaid : Prop := settleEndsRow.holds Try.pinned (OpenSpec.ofChange settleEndsSpec)

/-- ITS FALSE NEIGHBOUR: 'it returns false'. Refute it at one input. -/
def settleEndsWrong : ChangeSpec := { name := "settleEnds", fn := fun _ => fun
  | [d1, d2, d3] => { results := [.lit (.bool false)], args := [d1, d2, d3] }
  | _ => none }
def SettleEndsWrongFalsely : Prop := settleEndsRow.holds Try.pinned (OpenSpec.ofChange settleEndsWrong)

/-- 'blockworkslaw09.SettleRests': WHATEVER THE INPUT: true; the input reads as it did. -/
def settleRestsSpec : ChangeSpec := { name := "settleRests", fn := fun _ => fun
  | [d1, d2] => { results := [.lit (.bool true)], args := [d1, d2] }
  | _ => none }
def settleRestsRow : OpenClaim := { program := "ytfjfkaaflghaiaa", sum := "5731943f3e37bb239752140550643bd0dcd5583f7fee871fb899903d16d548f7", func := "blockworks/blockworkslaw09.SettleRests", spec := "settleRests", unfollowed := true, recurses := true, plainKeys := false, apart := false }
def SettleRestsSaid : Prop := settleRestsRow.holds Try.pinned (OpenSpec.ofChange settleRestsSpec)

/-- ITS FALSE NEIGHBOUR: 'it returns false'. Refute it at one input. -/
def settleRestsWrong : ChangeSpec := { name := "settleRests", fn := fun _ => fun
  | [d1, d2] => { results := [.lit (.bool false)], args := [d1, d2] }
  | _ => none }
def SettleRestsWrongFalsely : Prop := settleRestsRow.holds Try.pinned (OpenSpec.ofChange settleRestsWrong)

/-- 'blockworkslaw09.SettleWait': WHATEVER THE INPUT: true; the input reads as it did. -/
def settleWaitSpec : ChangeSpec := { name := "settleWait", fn := fun _ => fun
  | [d1, d2, d3] => { results := [.lit (.bool true)], args := [d1, d2, d3] }
  | _ => none }
def settleWaitRow : OpenClaim := { program := "ytfjfkaaflghaiaa", sum := "5731943f3e37bb239752140550643bd0dcd5583f7fee871fb899903d16d548f7", func := "blockworks/blockworkslaw09.SettleWait", spec := "settleWait", unfollowed := true, recurses := true, plainKeys := false, apart := false }
def SettleWaitSaid : Prop := settleWaitRow.holds Try.pinned (OpenSpec.ofChange settleWaitSpec)

/-- ITS FALSE NEIGHBOUR: 'it returns false'. Refute it at one input. -/
def settleWaitWrong : ChangeSpec := { name := "settleWait", fn := fun _ => fun
  | [d1, d2, d3] => { results := [.lit (.bool false)], args := [d1, d2, d3] }
  | _ => none }
def SettleWaitWrongFalsely : Prop := settleWaitRow.holds Try.pinned (OpenSpec.ofChange settleWaitWrong)

/-- 'blockworkslaw09.SettleLatest': WHATEVER THE INPUT: true; the input reads as it did. -/
def settleLatestSpec : ChangeSpec := { name := "settleLatest", fn := fun _ => fun
  | [d1, d2, d3, d4] => { results := [.lit (.bool true)], args := [d1, d2, d3, d4] }
  | _ => none }
def settleLatestRow : OpenClaim := { program := "ytfjfkaaflghaiaa", sum := "5731943f3e37bb239752140550643bd0dcd5583f7fee871fb899903d16d548f7", func := "blockworks/blockworkslaw09.SettleLatest", spec := "settleLatest", unfollowed := true, recurses := true, plainKeys := false, apart := false }
def SettleLatestSaid : Prop := settleLatestRow.holds Try.pinned (OpenSpec.ofChange settleLatestSpec)

/-- ITS FALSE NEIGHBOUR: 'it returns false'. Refute it at one input. -/
def settleLatestWrong : ChangeSpec := { name := "settleLatest", fn := fun _ => fun
  | [d1, d2, d3, d4] => { results := [.lit (.bool false)], args := [d1, d2, d3, d4] }
  | _ => none }
def SettleLatestWrongFalsely : Prop := settleLatestRow.holds Try.pinned (OpenSpec.ofChange settleLatestWrong)

/-- 'blockworkslaw09.SettleMore': WHATEVER THE INPUT: true; the input reads as it did. -/
def settleMoreSpec : ChangeSpec := { name := "settleMore", fn := fun _ => fun
  | [d1, d2, d3, d4] => { results := [.lit (.bool true)], args := [d1, d2, d3, d4] }
  | _ => none }
def settleMoreRow : OpenClaim := { program := "ytfjfkaaflghaiaa", sum := "5731943f3e37bb239752140550643bd0dcd5583f7fee871fb899903d16d548f7", func := "blockworks/blockworkslaw09.SettleMore", spec := "settleMore", unfollowed := true, recurses := true, plainKeys := false, apart := false }
def SettleMoreSaid : Prop := settleMoreRow.holds Try.pinned (OpenSpec.ofChange settleMoreSpec)

/-- ITS FALSE NEIGHBOUR: 'it returns false'. Refute it at one input. -/
def settleMoreWrong : ChangeSpec := { name := "settleMore", fn := fun _ => fun
  | [d1, d2, d3, d4] => { results := [.lit (.bool false)], args := [d1, d2, d3, d4] }
  | _ => none }
def SettleMoreWrongFalsely : Prop := settleMoreRow.holds Try.pinned (OpenSpec.ofChange settleMoreWrong)

/- THE SECOND FORM. 'bulk': how many values and letters a reading holds, each counted each time it is reached (what is shared counts as often as it is met; a slice's spare places count too). A statement '..UptoSaid' is the law's where the arguments, and the package variables that the reading takes, are together of bulk at most 1048576: NARROWER than '..Said'. Prove '..Said' where nothing that the law and all that it calls make is longer than what came in: it says more and counts as full. Else prove '..UptoSaid'. A law counts once. -/
mutual
def uptoBulk {H : Type} : DataW H → Nat
  | .lit (.string bytes) => bytes.length + 1
  | .lit _ => 1
  | .nil => 1
  | .ptr d => uptoBulk d + 1
  | .slice elems spare => uptoBulkAll elems + uptoBulkAll spare + 1
  | .agg parts => uptoBulkAll parts + 1
  | .iface _ d => uptoBulk d + 1
  | .map entries => uptoBulkEntries entries + 1
  | .held _ => 1
def uptoBulkAll {H : Type} : List (DataW H) → Nat
  | [] => 0
  | d :: r => uptoBulk d + uptoBulkAll r
def uptoBulkEntries {H : Type} : List (Lit × DataW H) → Nat
  | [] => 0
  | x :: r => uptoBulkEntry x + uptoBulkEntries r
def uptoBulkEntry {H : Type} : Lit × DataW H → Nat
  | (.string bytes, d) => bytes.length + uptoBulk d + 1
  | (_, d) => uptoBulk d + 1
 end
def uptoSmall : (H : Type) → List (DataW H) → Bool := fun _ ds => decide (uptoBulkAll ds ≤ 1048576)
def OpenSpec.upto (s : _root_.Go.ChangeSpec) : _root_.Go.OpenSpec := { _root_.Go.OpenSpec.ofChange s with cond := some uptoSmall }

/-- 'blockworkslaw09.SettleNames', WHERE WHAT IT READS IS OF BULK AT MOST 1048576: true; the input reads as it did. -/
def settleNamesUptoRow : OpenClaim := { program := "ytfjfkaaflghaiaa", sum := "5731943f3e37bb239752140550643bd0dcd5583f7fee871fb899903d16d548f7", func := "blockworks/blockworkslaw09.SettleNames", spec := "settleNames", unfollowed := true, recurses := true, plainKeys := false, apart := false, narrowed := true }
def SettleNamesUptoSaid : Prop := settleNamesUptoRow.holds Try.pinned (OpenSpec.upto settleNamesSpec)

/-- 'blockworkslaw09.SettleTrue', WHERE WHAT IT READS IS OF BULK AT MOST 1048576: true; the input reads as it did. -/
def settleTrueUptoRow : OpenClaim := { program := "ytfjfkaaflghaiaa", sum := "5731943f3e37bb239752140550643bd0dcd5583f7fee871fb899903d16d548f7", func := "blockworks/blockworkslaw09.SettleTrue", spec := "settleTrue", unfollowed := true, recurses := true, plainKeys := false, apart := false, narrowed := true }
def SettleTrueUptoSaid : Prop := settleTrueUptoRow.holds Try.pinned (OpenSpec.upto settleTrueSpec)

/-- 'blockworkslaw09.SettleEnds', WHERE WHAT IT READS IS OF BULK AT MOST 1048576: true; the input reads as it did. -/
def settleEndsUptoRow : OpenClaim := { program := "ytfjfkaaflghaiaa", sum := "5731943f3e37bb239752140550643bd0dcd5583f7fee871fb899903d16d548f7", func := "blockworks/blockworkslaw09.SettleEnds", spec := "settleEnds", unfollowed := true, recurses := true, plainKeys := false, apart := false, narrowed := true }
def SettleEndsUptoSaid : Prop := settleEndsUptoRow.holds Try.pinned (OpenSpec.upto settleEndsSpec)

/-- 'blockworkslaw09.SettleRests', WHERE WHAT IT READS IS OF BULK AT MOST 1048576: true; the input reads as it did. -/
def settleRestsUptoRow : OpenClaim := { program := "ytfjfkaaflghaiaa", sum := "5731943f3e37bb239752140550643bd0dcd5583f7fee871fb899903d16d548f7", func := "blockworks/blockworkslaw09.SettleRests", spec := "settleRests", unfollowed := true, recurses := true, plainKeys := false, apart := false, narrowed := true }
def SettleRestsUptoSaid : Prop := settleRestsUptoRow.holds Try.pinned (OpenSpec.upto settleRestsSpec)

/-- 'blockworkslaw09.SettleWait', WHERE WHAT IT READS IS OF BULK AT MOST 1048576: true; the input reads as it did. -/
def settleWaitUptoRow : OpenClaim := { program := "ytfjfkaaflghaiaa", sum := "5731943f3e37bb239752140550643bd0dcd5583f7fee871fb899903d16d548f7", func := "blockworks/blockworkslaw09.SettleWait", spec := "settleWait", unfollowed := true, recurses := true, plainKeys := false, apart := false, narrowed := true }
def SettleWaitUptoSaid : Prop := settleWaitUptoRow.holds Try.pinned (OpenSpec.upto settleWaitSpec)

/-- 'blockworkslaw09.SettleLatest', WHERE WHAT IT READS IS OF BULK AT MOST 1048576: true; the input reads as it did. -/
def settleLatestUptoRow : OpenClaim := { program := "ytfjfkaaflghaiaa", sum := "5731943f3e37bb239752140550643bd0dcd5583f7fee871fb899903d16d548f7", func := "blockworks/blockworkslaw09.SettleLatest", spec := "settleLatest", unfollowed := true, recurses := true, plainKeys := false, apart := false, narrowed := true }
def SettleLatestUptoSaid : Prop := settleLatestUptoRow.holds Try.pinned (OpenSpec.upto settleLatestSpec)

/-- 'blockworkslaw09.SettleMore', WHERE WHAT IT READS IS OF BULK AT MOST 1048576: true; the input reads as it did. -/
def settleMoreUptoRow : OpenClaim := { program := "ytfjfkaaflghaiaa", sum := "5731943f3e37bb239752140550643bd0dcd5583f7fee871fb899903d16d548f7", func := "blockworks/blockworkslaw09.SettleMore", spec := "settleMore", unfollowed := true, recurses := true, plainKeys := false, apart := false, narrowed := true }
def SettleMoreUptoSaid : Prop := settleMoreUptoRow.holds Try.pinned (OpenSpec.upto settleMoreSpec)

end Rows
end Go.Proofs.Ytfjfkaaflghaiaa
