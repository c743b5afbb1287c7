/-
  ENGINE: some cells after each other of an element of a row are written.
-/
import Derived.Test.YtfjfkaaflghaiaaGb

