/-
  What the walks of the exact laws of chapter 4 use besides.
-/
import Derived.Test.YtmjeaceabjinfaaShapes
import Derived.Test.YtmjeaceabjinfaaStrong
import Derived.Deep.CutRange
import Derived.Deep.RegionWith
