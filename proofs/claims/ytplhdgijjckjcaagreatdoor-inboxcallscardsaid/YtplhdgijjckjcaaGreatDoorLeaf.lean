/-
  What the texts of errors.As and errors.Is stand on.
-/
import Derived.Test.YtplhdgijjckjcaaGreatDoorIbBase
