/-
  The program's contracts of chapter 9, together.
-/
import Derived.Test.YtecdagfenooboaaGrImplF
import Derived.Test.YtecdagfenooboaaGrImplI
