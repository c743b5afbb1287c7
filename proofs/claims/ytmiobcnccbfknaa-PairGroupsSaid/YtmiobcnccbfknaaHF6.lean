/-
  LAW: PairLongest: numbers.
-/
import Derived.Test.YtmiobcnccbfknaaHF5

