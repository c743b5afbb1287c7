/-
  LAW: PairLongest, walked.
-/
import Derived.Test.YtmiobcnccbfknaaHF6

