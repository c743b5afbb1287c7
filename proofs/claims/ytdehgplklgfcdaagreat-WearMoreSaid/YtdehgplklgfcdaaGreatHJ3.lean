/-
  LAW: WearTrue: truly.
-/
import Derived.Test.YtdehgplklgfcdaaGreatGp

