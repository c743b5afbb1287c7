/-
  LAW: PairGroups, walked.
-/
import Derived.Test.YthnhcacoegmdfaaHG2
import Derived.Test.YthnhcacoegmdfaaHF8

