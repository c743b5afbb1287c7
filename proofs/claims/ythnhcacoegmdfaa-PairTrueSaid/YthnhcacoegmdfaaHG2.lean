/-
  LAW: PairGroups: what has been joined; a pair with readings more.
-/
import Derived.Test.YthnhcacoegmdfaaHG1
import Derived.Test.YthnhcacoegmdfaaGb

