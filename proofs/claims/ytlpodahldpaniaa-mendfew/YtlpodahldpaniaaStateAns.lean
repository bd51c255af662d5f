/- What State answers of a right log. -/
import Derived.Test.YtlpodahldpaniaaLogLA
import Derived.Test.YtlpodahldpaniaaOpen2
import Derived.Test.YtlpodahldpaniaaChoose
import Derived.Test.YtlpodahldpaniaaStanding
namespace Go.Proofs.Ytlpodahldpaniaa.B
set_option maxRecDepth 100000
open Go.ChangeShapes Go.WideShapes Go.ChangeAt Go.RowKit

theorem stateAns_ok {l : List Rc} (h : logErr l = 0) {m : Nat} (hm : m < 9) : stateAns l (1 + (m : Int)) = (stateR l (1 + (m : Int)), ((lastR l (1 + (m : Int)) : Nat) : Int), 0) := by
  unfold stateAns
  rw [if_pos h, out_one]
  have : wi (1 + (m : Int)) 1 9 = true := by simp [wi]; omega
  rw [this]; rfl
end Go.Proofs.Ytlpodahldpaniaa.B
