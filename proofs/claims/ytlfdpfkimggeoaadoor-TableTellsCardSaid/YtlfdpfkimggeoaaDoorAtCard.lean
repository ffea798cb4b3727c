/-
  The cards' common part for laws that read the table of powers of ten.
-/
import Derived.Stop.LaidErr
import Derived.Test.YtlfdpfkimggeoaaDoorAtG
import Derived.Test.YtlfdpfkimggeoaaDoorPlCard
namespace Go.Proofs.YtlfdpfkimggeoaaDoor
open Go.RowKit

theorem pow_laid : (Rows.laid_internal_strconv_uint64pow10 : DataW Unit) = Lib.tabData .u64 Lib.pow10Tab := by rfl
theorem powTab_of {W : World} {a b : String × DataW Unit} (h : laidMet Tryd.prog [a, b, ("internal/strconv.uint64pow10", Rows.laid_internal_strconv_uint64pow10)] W) : PowTab W := by
  have h2 := (h.tail).tail
  rw [pow_laid] at h2
  exact Lib.tabIs_of_head (g := 0) (t := 82) (e := 74) (n := 20) (by kernel_rfl) (by kernel_rfl) (by kernel_rfl) (by kernel_rfl) (by kernel_rfl) (by kernel_rfl) h2
end Go.Proofs.YtlfdpfkimggeoaaDoor
