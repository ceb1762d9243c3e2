/-
  What 'As' stands on, for the log's seat.
-/
import Derived.Test.YtgminfbhaclbbaaDoorDkUn
import Derived.WalkKit
