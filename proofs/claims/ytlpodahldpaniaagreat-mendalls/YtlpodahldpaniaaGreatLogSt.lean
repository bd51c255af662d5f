/- The contract of the reference's StateOf. -/
import Derived.Test.YtlpodahldpaniaaGreatLogLA
namespace Go.Proofs.YtlpodahldpaniaaGreat.B
set_option maxRecDepth 100000
open Go.ChangeShapes Go.WideShapes Go.ChangeAt Go.RowKit

end Go.Proofs.YtlpodahldpaniaaGreat.B
