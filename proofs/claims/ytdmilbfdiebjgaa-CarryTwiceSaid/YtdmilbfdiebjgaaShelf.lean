/-
  No text of the library is laid at this seat.
-/
import Derived.Test.YtdmilbfdiebjgaaProg
namespace Go.Proofs.Ytdmilbfdiebjgaa
end Go.Proofs.Ytdmilbfdiebjgaa
