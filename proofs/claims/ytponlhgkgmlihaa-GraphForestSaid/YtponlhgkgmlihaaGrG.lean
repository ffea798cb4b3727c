/-
  What the laws of layer 5 share.
-/
import Derived.Test.YtponlhgkgmlihaaGrF
import Derived.Test.YtponlhgkgmlihaaPmB
