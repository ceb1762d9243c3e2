/-
  What 'As' stands on, for the log's seat.
-/
import Derived.Test.YtlbkebjmgeggmaaDoorDkUn
import Derived.WalkKit
