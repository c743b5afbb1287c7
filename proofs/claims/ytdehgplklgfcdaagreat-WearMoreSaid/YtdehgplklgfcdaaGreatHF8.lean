/-
  LAW: WearLater, from region 18 on, where two uses are joined.
-/
import Derived.Test.YtdehgplklgfcdaaGreatHF7

