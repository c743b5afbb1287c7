/-
  LAW: WearLater, walked.
-/
import Derived.Test.YtdehgplklgfcdaaGreatHF8

