/-
  LAW: PairClash, walked.
-/
import Derived.Test.YthnhcacoegmdfaaHF8

