/-
 Rg9.
-/
import Derived.Test.YtihnaddfpmjpaaaGreatDoorJ42
import Derived.Test.YtihnaddfpmjpaaaGreatDoorJ25
import Derived.Test.YtihnaddfpmjpaaaGreatDoorJ23
import Derived.Test.YtihnaddfpmjpaaaGreatDoorJ38
import Derived.Deep.RegionHeld3
