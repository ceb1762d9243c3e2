/-
  What 'As' and 'Is' stand on, for this seat.
-/
import Derived.Test.YtgcdddkebehajaaDoorTdLeaf
