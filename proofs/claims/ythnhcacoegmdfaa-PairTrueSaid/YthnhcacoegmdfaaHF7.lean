/-
  LAW: PairLongest, walked.
-/
import Derived.Test.YthnhcacoegmdfaaHF6

