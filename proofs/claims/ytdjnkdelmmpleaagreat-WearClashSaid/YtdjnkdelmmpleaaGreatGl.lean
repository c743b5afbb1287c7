/-
  REF: after, After, Fits.
  REF: After, Fits, Below.
  REF: Lost.
-/
import Derived.Test.YtdjnkdelmmpleaaGreatGk
import Derived.Test.YtdjnkdelmmpleaaGreatGg

