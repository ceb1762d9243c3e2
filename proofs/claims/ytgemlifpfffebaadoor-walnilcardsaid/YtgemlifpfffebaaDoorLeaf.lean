/-
  What 'As' stands on, for the log's seat.
-/
import Derived.Test.YtgemlifpfffebaaDoorDk
import Derived.WalkKit
