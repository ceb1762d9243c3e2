/-
  What 'As' stands on, for the log's seat.
-/
import Derived.Test.YtfkcnnjkflomkaaDoorDkUn
import Derived.WalkKit
