/- What the row lays: errEarly is an error. -/
import Derived.Test.YtbfefocehnafgaaDoorWireA
import Derived.Test.YtbfefocehnafgaaDoorCards
import Derived.Test.YtbfefocehnafgaaDoorTie
import Derived.LaidLaws
import Derived.ChangeMaps5
namespace Go.Proofs.YtbfefocehnafgaaDoor.B
set_option maxRecDepth 100000
open Go.ChangeShapes Go.WideShapes Go.ChangeAt Go.RowKit

theorem early_var : Tryd.prog.globalNamed "croft/wire.errEarly" = some 0 := by kernel_rfl
theorem early_type : (Tryd.prog.globals[0]?).map (·.type) = some 82 := by kernel_rfl
def early : List UInt8 := [119, 105, 114, 101, 58, 32, 116, 104, 101, 32, 98, 121, 116, 101, 115, 32, 101, 110, 100, 32, 116, 111, 111, 32, 101, 97, 114, 108, 121]
theorem early_of_laid {W : World} (h : laidMet Tryd.prog [("croft/wire.errEarly", Rows.laid_croft_wire_errEarly)] W) : Early W := by
  obtain ⟨ps, ⟨g0, t0, cs0, f0, p0, q0, hg0, ht0, hv0, hd0, _, _⟩, _, _⟩ := h
  obtain rfl := Option.some.inj (early_var.symm.trans hg0)
  obtain rfl := Option.some.inj (early_type.symm.trans ht0)
  obtain ⟨l0⟩ := cs0
  obtain ⟨f1, u, v, rfl, _, _⟩ := iface_of_trod Tryd.underlying82 hd0
  exact ⟨u, v, by simpa using World.var?_cell early_var hv0 0⟩
end Go.Proofs.YtbfefocehnafgaaDoor.B
