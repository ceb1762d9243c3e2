/-
  What 'As' stands on, for this seat.
-/
import Derived.Test.YtnabpjfdpelejaaDoorProg
import Derived.WalkKit
import Derived.WalkSpells
import Derived.WalkLawsBesides
import Derived.Below
import Derived.BigQuiet
import Derived.Deep.QuietTactic
import Derived.Deep.RegionWith
import Derived.Deep.RegionHeld3
import Derived.Stop.Asserts
import Derived.RowKitTokens
import Derived.Lib.IndexAny
import Derived.LoopTactic
import Derived.Laws.Cells
