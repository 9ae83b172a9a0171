/-
  What the walks of the exact laws of chapter 4 use besides.
-/
import Derived.Test.YtnagaanagcmdgaaShapes
import Derived.Test.YtnagaanagcmdgaaStrong
import Derived.Deep.CutRange
import Derived.Deep.RegionWith
