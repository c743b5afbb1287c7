/-
  LAW: PairEnds, walked.
-/
import Derived.Test.YtmiobcnccbfknaaHF4

