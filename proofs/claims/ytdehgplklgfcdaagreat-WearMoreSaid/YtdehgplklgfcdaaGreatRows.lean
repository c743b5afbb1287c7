/-
  No cell of these rows narrows 'for every input' (looked for: loops, veiled, ifaces, maps, wideKeys, modest, calm, conditions, laid).
  DERIVED. THE GIVEN ROWS OF THIS SEAT. 9 by the template 'for every input the law returns true; each argument reads behind the call as it read before'; 0 by the template 'total and deterministic' (their statements: YtdehgplklgfcdaaGreatTotals.lean).
  GIVEN WITH THE SEED: the statements are not yours to turn. If you find one false, say at which input.
  Laid BY PROGRAM, IN A SANDBOX (cutbox-rows.mjs): the forced cells as the released guide's own fill.sh prints them over the translation 7e342245bb958bc2… (all of the seat's roots in one cut). By AI agents, Wed Nov 11 2026. No macro, syntax, notation, axiom, sorry.
-/
import Derived.Test.YtdehgplklgfcdaaGreatChecked
import GoSem.Claim
import GoSem.ClaimJoined
import GoSem.ClaimMapViews
import Derived.JoinedTies
import Derived.KernelRfl
namespace Go.Proofs.YtdehgplklgfcdaaGreat
/- THE CELL 'sum', in the pinned program and in every row, IS THE sha256 OF THE DUMP (.gsa) THAT YtdehgplklgfcdaaGreatProg.lean LOADS. Nothing in Lean hashes anything: it is a label: what it is worth is what the hold of that sum in a sandbox is worth. -/
noncomputable def Tryz.pinned : Pinned := { name := "ytdehgplklgfcdaagreat", sum := "7e342245bb958bc2d7620a7bafc981a394a4df7c20de84bf14066fd804aa0102", checked := Tryz.checked }
namespace Rows
def none {H : Type} : Left H := { results := [], args := [] }

/-- 'blockworkslaw06.WearReads': WHATEVER THE INPUT: true; the input reads as it did. -/
def wearReadsSpec : ChangeSpec := { name := "wearReads", fn := fun _ => fun
  | [d1, d2, d3, d4] => { results := [.lit (.bool true)], args := [d1, d2, d3, d4] }
  | _ => none }
def wearReadsRow : OpenClaim := { program := "ytdehgplklgfcdaagreat", sum := "7e342245bb958bc2d7620a7bafc981a394a4df7c20de84bf14066fd804aa0102", func := "blockworks/blockworkslaw06.WearReads", spec := "wearReads", unfollowed := true, recurses := true, plainKeys := false, apart := false }
def WearReadsSaid : Prop := wearReadsRow.holds Tryz.pinned (OpenSpec.ofChange wearReadsSpec)

/-- ITS FALSE NEIGHBOUR: 'it returns false'. Refute it at one input. -/
def wearReadsWrong : ChangeSpec := { name := "wearReads", fn := fun _ => fun
  | [d1, d2, d3, d4] => { results := [.lit (.bool false)], args := [d1, d2, d3, d4] }
  | _ => none }
def WearReadsWrongFalsely : Prop := wearReadsRow.holds Tryz.pinned (OpenSpec.ofChange wearReadsWrong)

/-- 'blockworkslaw06.WearLooks': WHATEVER THE INPUT: true; the input reads as it did. -/
def wearLooksSpec : ChangeSpec := { name := "wearLooks", fn := fun _ => fun
  | [d1, d2, d3] => { results := [.lit (.bool true)], args := [d1, d2, d3] }
  | _ => none }
def wearLooksRow : OpenClaim := { program := "ytdehgplklgfcdaagreat", sum := "7e342245bb958bc2d7620a7bafc981a394a4df7c20de84bf14066fd804aa0102", func := "blockworks/blockworkslaw06.WearLooks", spec := "wearLooks", unfollowed := true, recurses := true, plainKeys := false, apart := false }
def WearLooksSaid : Prop := wearLooksRow.holds Tryz.pinned (OpenSpec.ofChange wearLooksSpec)

/-- ITS FALSE NEIGHBOUR: 'it returns false'. Refute it at one input. -/
def wearLooksWrong : ChangeSpec := { name := "wearLooks", fn := fun _ => fun
  | [d1, d2, d3] => { results := [.lit (.bool false)], args := [d1, d2, d3] }
  | _ => none }
def WearLooksWrongFalsely : Prop := wearLooksRow.holds Tryz.pinned (OpenSpec.ofChange wearLooksWrong)

/-- 'blockworkslaw06.WearTrue': WHATEVER THE INPUT: true; the input reads as it did. -/
def wearTrueSpec : ChangeSpec := { name := "wearTrue", fn := fun _ => fun
  | [d1, d2, d3, d4] => { results := [.lit (.bool true)], args := [d1, d2, d3, d4] }
  | _ => none }
def wearTrueRow : OpenClaim := { program := "ytdehgplklgfcdaagreat", sum := "7e342245bb958bc2d7620a7bafc981a394a4df7c20de84bf14066fd804aa0102", func := "blockworks/blockworkslaw06.WearTrue", spec := "wearTrue", unfollowed := true, recurses := true, plainKeys := false, apart := false }
def WearTrueSaid : Prop := wearTrueRow.holds Tryz.pinned (OpenSpec.ofChange wearTrueSpec)

/-- ITS FALSE NEIGHBOUR: 'it returns false'. Refute it at one input. -/
def wearTrueWrong : ChangeSpec := { name := "wearTrue", fn := fun _ => fun
  | [d1, d2, d3, d4] => { results := [.lit (.bool false)], args := [d1, d2, d3, d4] }
  | _ => none }
def WearTrueWrongFalsely : Prop := wearTrueRow.holds Tryz.pinned (OpenSpec.ofChange wearTrueWrong)

/-- 'blockworkslaw06.WearEnds': WHATEVER THE INPUT: true; the input reads as it did. -/
def wearEndsSpec : ChangeSpec := { name := "wearEnds", fn := fun _ => fun
  | [d] => { results := [.lit (.bool true)], args := [d] }
  | _ => none }
def wearEndsRow : OpenClaim := { program := "ytdehgplklgfcdaagreat", sum := "7e342245bb958bc2d7620a7bafc981a394a4df7c20de84bf14066fd804aa0102", func := "blockworks/blockworkslaw06.WearEnds", spec := "wearEnds", unfollowed := true, recurses := true, plainKeys := false, apart := false }
def WearEndsSaid : Prop := wearEndsRow.holds Tryz.pinned (OpenSpec.ofChange wearEndsSpec)

/-- ITS FALSE NEIGHBOUR: 'it returns false'. Refute it at one input. -/
def wearEndsWrong : ChangeSpec := { name := "wearEnds", fn := fun _ => fun
  | [d] => { results := [.lit (.bool false)], args := [d] }
  | _ => none }
def WearEndsWrongFalsely : Prop := wearEndsRow.holds Tryz.pinned (OpenSpec.ofChange wearEndsWrong)

/-- 'blockworkslaw06.WearShort': WHATEVER THE INPUT: true; the input reads as it did. -/
def wearShortSpec : ChangeSpec := { name := "wearShort", fn := fun _ => fun
  | [d1, d2, d3, d4] => { results := [.lit (.bool true)], args := [d1, d2, d3, d4] }
  | _ => none }
def wearShortRow : OpenClaim := { program := "ytdehgplklgfcdaagreat", sum := "7e342245bb958bc2d7620a7bafc981a394a4df7c20de84bf14066fd804aa0102", func := "blockworks/blockworkslaw06.WearShort", spec := "wearShort", unfollowed := true, recurses := true, plainKeys := false, apart := false }
def WearShortSaid : Prop := wearShortRow.holds Tryz.pinned (OpenSpec.ofChange wearShortSpec)

/-- ITS FALSE NEIGHBOUR: 'it returns false'. Refute it at one input. -/
def wearShortWrong : ChangeSpec := { name := "wearShort", fn := fun _ => fun
  | [d1, d2, d3, d4] => { results := [.lit (.bool false)], args := [d1, d2, d3, d4] }
  | _ => none }
def WearShortWrongFalsely : Prop := wearShortRow.holds Tryz.pinned (OpenSpec.ofChange wearShortWrong)

/-- 'blockworkslaw06.WearFits': WHATEVER THE INPUT: true; the input reads as it did. -/
def wearFitsSpec : ChangeSpec := { name := "wearFits", fn := fun _ => fun
  | [d1, d2, d3] => { results := [.lit (.bool true)], args := [d1, d2, d3] }
  | _ => none }
def wearFitsRow : OpenClaim := { program := "ytdehgplklgfcdaagreat", sum := "7e342245bb958bc2d7620a7bafc981a394a4df7c20de84bf14066fd804aa0102", func := "blockworks/blockworkslaw06.WearFits", spec := "wearFits", unfollowed := true, recurses := true, plainKeys := false, apart := false }
def WearFitsSaid : Prop := wearFitsRow.holds Tryz.pinned (OpenSpec.ofChange wearFitsSpec)

/-- ITS FALSE NEIGHBOUR: 'it returns false'. Refute it at one input. -/
def wearFitsWrong : ChangeSpec := { name := "wearFits", fn := fun _ => fun
  | [d1, d2, d3] => { results := [.lit (.bool false)], args := [d1, d2, d3] }
  | _ => none }
def WearFitsWrongFalsely : Prop := wearFitsRow.holds Tryz.pinned (OpenSpec.ofChange wearFitsWrong)

/-- 'blockworkslaw06.WearClash': WHATEVER THE INPUT: true; the input reads as it did. -/
def wearClashSpec : ChangeSpec := { name := "wearClash", fn := fun _ => fun
  | [d1, d2] => { results := [.lit (.bool true)], args := [d1, d2] }
  | _ => none }
def wearClashRow : OpenClaim := { program := "ytdehgplklgfcdaagreat", sum := "7e342245bb958bc2d7620a7bafc981a394a4df7c20de84bf14066fd804aa0102", func := "blockworks/blockworkslaw06.WearClash", spec := "wearClash", unfollowed := true, recurses := true, plainKeys := false, apart := false }
def WearClashSaid : Prop := wearClashRow.holds Tryz.pinned (OpenSpec.ofChange wearClashSpec)

/-- ITS FALSE NEIGHBOUR: 'it returns false'. Refute it at one input. -/
def wearClashWrong : ChangeSpec := { name := "wearClash", fn := fun _ => fun
  | [d1, d2] => { results := [.lit (.bool false)], args := [d1, d2] }
  | _ => none }
def WearClashWrongFalsely : Prop := wearClashRow.holds Tryz.pinned (OpenSpec.ofChange wearClashWrong)

/-- 'blockworkslaw06.WearMore': WHATEVER THE INPUT: true; the input reads as it did. -/
def wearMoreSpec : ChangeSpec := { name := "wearMore", fn := fun _ => fun
  | [d1, d2, d3, d4] => { results := [.lit (.bool true)], args := [d1, d2, d3, d4] }
  | _ => none }
def wearMoreRow : OpenClaim := { program := "ytdehgplklgfcdaagreat", sum := "7e342245bb958bc2d7620a7bafc981a394a4df7c20de84bf14066fd804aa0102", func := "blockworks/blockworkslaw06.WearMore", spec := "wearMore", unfollowed := true, recurses := true, plainKeys := false, apart := false }
def WearMoreSaid : Prop := wearMoreRow.holds Tryz.pinned (OpenSpec.ofChange wearMoreSpec)

/-- ITS FALSE NEIGHBOUR: 'it returns false'. Refute it at one input. -/
def wearMoreWrong : ChangeSpec := { name := "wearMore", fn := fun _ => fun
  | [d1, d2, d3, d4] => { results := [.lit (.bool false)], args := [d1, d2, d3, d4] }
  | _ => none }
def WearMoreWrongFalsely : Prop := wearMoreRow.holds Tryz.pinned (OpenSpec.ofChange wearMoreWrong)

/-- 'blockworkslaw06.WearLater': WHATEVER THE INPUT: true; the input reads as it did. -/
def wearLaterSpec : ChangeSpec := { name := "wearLater", fn := fun _ => fun
  | [d1, d2, d3] => { results := [.lit (.bool true)], args := [d1, d2, d3] }
  | _ => none }
def wearLaterRow : OpenClaim := { program := "ytdehgplklgfcdaagreat", sum := "7e342245bb958bc2d7620a7bafc981a394a4df7c20de84bf14066fd804aa0102", func := "blockworks/blockworkslaw06.WearLater", spec := "wearLater", unfollowed := true, recurses := true, plainKeys := false, apart := false }
def WearLaterSaid : Prop := wearLaterRow.holds Tryz.pinned (OpenSpec.ofChange wearLaterSpec)

/-- ITS FALSE NEIGHBOUR: 'it returns false'. Refute it at one input. -/
def wearLaterWrong : ChangeSpec := { name := "wearLater", fn := fun _ => fun
  | [d1, d2, d3] => { results := [.lit (.bool false)], args := [d1, d2, d3] }
  | _ => none }
def WearLaterWrongFalsely : Prop := wearLaterRow.holds Tryz.pinned (OpenSpec.ofChange wearLaterWrong)

/- THE SECOND FORM. 'bulk': how many values and letters a reading holds, each counted each time it is reached (what is shared counts as often as it is met; a slice's spare places count too). A statement '..UptoSaid' is the law's where the arguments, and the package variables that the reading takes, are together of bulk at most 1048576: NARROWER than '..Said'. Prove '..Said' where nothing that the law and all that it calls make is longer than what came in: it says more and counts as full. Else prove '..UptoSaid'. A law counts once. -/
mutual
def uptoBulk {H : Type} : DataW H → Nat
  | .lit (.string bytes) => bytes.length + 1
  | .lit _ => 1
  | .nil => 1
  | .ptr d => uptoBulk d + 1
  | .slice elems spare => uptoBulkAll elems + uptoBulkAll spare + 1
  | .agg parts => uptoBulkAll parts + 1
  | .iface _ d => uptoBulk d + 1
  | .map entries => uptoBulkEntries entries + 1
  | .held _ => 1
def uptoBulkAll {H : Type} : List (DataW H) → Nat
  | [] => 0
  | d :: r => uptoBulk d + uptoBulkAll r
def uptoBulkEntries {H : Type} : List (Lit × DataW H) → Nat
  | [] => 0
  | x :: r => uptoBulkEntry x + uptoBulkEntries r
def uptoBulkEntry {H : Type} : Lit × DataW H → Nat
  | (.string bytes, d) => bytes.length + uptoBulk d + 1
  | (_, d) => uptoBulk d + 1
 end
def uptoSmall : (H : Type) → List (DataW H) → Bool := fun _ ds => decide (uptoBulkAll ds ≤ 1048576)
def OpenSpec.upto (s : _root_.Go.ChangeSpec) : _root_.Go.OpenSpec := { _root_.Go.OpenSpec.ofChange s with cond := some uptoSmall }

/-- 'blockworkslaw06.WearReads', WHERE WHAT IT READS IS OF BULK AT MOST 1048576: true; the input reads as it did. -/
def wearReadsUptoRow : OpenClaim := { program := "ytdehgplklgfcdaagreat", sum := "7e342245bb958bc2d7620a7bafc981a394a4df7c20de84bf14066fd804aa0102", func := "blockworks/blockworkslaw06.WearReads", spec := "wearReads", unfollowed := true, recurses := true, plainKeys := false, apart := false, narrowed := true }
def WearReadsUptoSaid : Prop := wearReadsUptoRow.holds Tryz.pinned (OpenSpec.upto wearReadsSpec)

/-- 'blockworkslaw06.WearLooks', WHERE WHAT IT READS IS OF BULK AT MOST 1048576: true; the input reads as it did. -/
def wearLooksUptoRow : OpenClaim := { program := "ytdehgplklgfcdaagreat", sum := "7e342245bb958bc2d7620a7bafc981a394a4df7c20de84bf14066fd804aa0102", func := "blockworks/blockworkslaw06.WearLooks", spec := "wearLooks", unfollowed := true, recurses := true, plainKeys := false, apart := false, narrowed := true }
def WearLooksUptoSaid : Prop := wearLooksUptoRow.holds Tryz.pinned (OpenSpec.upto wearLooksSpec)

/-- 'blockworkslaw06.WearTrue', WHERE WHAT IT READS IS OF BULK AT MOST 1048576: true; the input reads as it did. -/
def wearTrueUptoRow : OpenClaim := { program := "ytdehgplklgfcdaagreat", sum := "7e342245bb958bc2d7620a7bafc981a394a4df7c20de84bf14066fd804aa0102", func := "blockworks/blockworkslaw06.WearTrue", spec := "wearTrue", unfollowed := true, recurses := true, plainKeys := false, apart := false, narrowed := true }
def WearTrueUptoSaid : Prop := wearTrueUptoRow.holds Tryz.pinned (OpenSpec.upto wearTrueSpec)

/-- 'blockworkslaw06.WearEnds', WHERE WHAT IT READS IS OF BULK AT MOST 1048576: true; the input reads as it did. -/
def wearEndsUptoRow : OpenClaim := { program := "ytdehgplklgfcdaagreat", sum := "7e342245bb958bc2d7620a7bafc981a394a4df7c20de84bf14066fd804aa0102", func := "blockworks/blockworkslaw06.WearEnds", spec := "wearEnds", unfollowed := true, recurses := true, plainKeys := false, apart := false, narrowed := true }
def WearEndsUptoSaid : Prop := wearEndsUptoRow.holds Tryz.pinned (OpenSpec.upto wearEndsSpec)

/-- 'blockworkslaw06.WearShort', WHERE WHAT IT READS IS OF BULK AT MOST 1048576: true; the input reads as it did. -/
def wearShortUptoRow : OpenClaim := { program := "ytdehgplklgfcdaagreat", sum := "7e342245bb958bc2d7620a7bafc981a394a4df7c20de84bf14066fd804aa0102", func := "blockworks/blockworkslaw06.WearShort", spec := "wearShort", unfollowed := true, recurses := true, plainKeys := false, apart := false, narrowed := true }
def WearShortUptoSaid : Prop := wearShortUptoRow.holds Tryz.pinned (OpenSpec.upto wearShortSpec)

/-- 'blockworkslaw06.WearFits', WHERE WHAT IT READS IS OF BULK AT MOST 1048576: true; the input reads as it did. -/
def wearFitsUptoRow : OpenClaim := { program := "ytdehgplklgfcdaagreat", sum := "7e342245bb958bc2d7620a7bafc981a394a4df7c20de84bf14066fd804aa0102", func := "blockworks/blockworkslaw06.WearFits", spec := "wearFits", unfollowed := true, recurses := true, plainKeys := false, apart := false, narrowed := true }
def WearFitsUptoSaid : Prop := wearFitsUptoRow.holds Tryz.pinned (OpenSpec.upto wearFitsSpec)

/-- 'blockworkslaw06.WearClash', WHERE WHAT IT READS IS OF BULK AT MOST 1048576: true; the input reads as it did. -/
def wearClashUptoRow : OpenClaim := { program := "ytdehgplklgfcdaagreat", sum := "7e342245bb958bc2d7620a7bafc981a394a4df7c20de84bf14066fd804aa0102", func := "blockworks/blockworkslaw06.WearClash", spec := "wearClash", unfollowed := true, recurses := true, plainKeys := false, apart := false, narrowed := true }
def WearClashUptoSaid : Prop := wearClashUptoRow.holds Tryz.pinned (OpenSpec.upto wearClashSpec)

/-- 'blockworkslaw06.WearMore', WHERE WHAT IT READS IS OF BULK AT MOST 1048576: true; the input reads as it did. -/
def wearMoreUptoRow : OpenClaim := { program := "ytdehgplklgfcdaagreat", sum := "7e342245bb958bc2d7620a7bafc981a394a4df7c20de84bf14066fd804aa0102", func := "blockworks/blockworkslaw06.WearMore", spec := "wearMore", unfollowed := true, recurses := true, plainKeys := false, apart := false, narrowed := true }
def WearMoreUptoSaid : Prop := wearMoreUptoRow.holds Tryz.pinned (OpenSpec.upto wearMoreSpec)

/-- 'blockworkslaw06.WearLater', WHERE WHAT IT READS IS OF BULK AT MOST 1048576: true; the input reads as it did. -/
def wearLaterUptoRow : OpenClaim := { program := "ytdehgplklgfcdaagreat", sum := "7e342245bb958bc2d7620a7bafc981a394a4df7c20de84bf14066fd804aa0102", func := "blockworks/blockworkslaw06.WearLater", spec := "wearLater", unfollowed := true, recurses := true, plainKeys := false, apart := false, narrowed := true }
def WearLaterUptoSaid : Prop := wearLaterUptoRow.holds Tryz.pinned (OpenSpec.upto wearLaterSpec)

end Rows
end Go.Proofs.YtdehgplklgfcdaaGreat
