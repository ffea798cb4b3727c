/-
  No text of the library is laid at this seat.
-/
import Derived.Lib.ItoaNum
import Derived.Lib.Join
import Derived.Test.YtlfdpfkimggeoaaProg
namespace Go.Proofs.Ytlfdpfkimggeoaa
end Go.Proofs.Ytlfdpfkimggeoaa
