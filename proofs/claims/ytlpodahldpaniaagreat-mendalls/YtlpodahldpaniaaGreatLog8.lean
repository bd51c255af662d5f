/- The contract of the reference's PagesOf. -/
import Derived.Test.YtlpodahldpaniaaGreatLog7
namespace Go.Proofs.YtlpodahldpaniaaGreat.B
set_option maxRecDepth 100000
open Go.ChangeShapes Go.WideShapes Go.ChangeAt Go.RowKit

/-- The document's answer of Pages. -/
def pagesOrNone (l : List Rc) : List Int := if logErr l = 0 then pagesR l else List.replicate 12 0
theorem logErr_zero {l : List Rc} (h : logErr l = 0) : l.length ≤ 60 ∧ Right l := by
  unfold logErr at h
  split at h
  · omega
  · exact ⟨by omega, h⟩

end Go.Proofs.YtlpodahldpaniaaGreat.B
