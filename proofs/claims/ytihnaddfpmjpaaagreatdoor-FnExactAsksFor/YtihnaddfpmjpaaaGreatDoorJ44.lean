/-
 Rg7, Rg8.
-/
import Derived.Test.YtihnaddfpmjpaaaGreatDoorJ42
import Derived.Test.YtihnaddfpmjpaaaGreatDoorJ43
import Derived.Test.YtihnaddfpmjpaaaGreatDoorJ40
