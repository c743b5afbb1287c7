/-
  LAW: PairEnds, walked.
-/
import Derived.Test.YthnhcacoegmdfaaHF4

