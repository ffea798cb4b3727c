/-
  bits.Count, bits.ofSize, bits.At: numbers alone.
-/
import Derived.Test.YtponlhgkgmlihaaSize
namespace Go.Proofs.Ytponlhgkgmlihaa
open Go.RowKit

end Go.Proofs.Ytponlhgkgmlihaa
