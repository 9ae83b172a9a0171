/-
  What the walks of the exact laws of chapter 4 use besides.
-/
import Derived.Test.YthamdefkcjfjpaaShapes
import Derived.Test.YthamdefkcjfjpaaStrong
import Derived.Deep.CutRange
import Derived.Deep.RegionWith
