/-
  What 'As' stands on, for this seat.
-/
import Derived.Test.YtommpallecaadaaDoorDk
import Derived.WalkKit
