/- What an index into an array that is a value gives. -/
import Derived.Test.YtgojonhjhdbpkaaEq
namespace Go.Proofs.Ytgojonhjhdbpkaa.B
set_option maxRecDepth 100000
open Go.ChangeShapes Go.WideShapes Go.ChangeAt Go.RowKit

theorem index_pages (cs : Array Value) (p : Int) (h0 : 0 ≤ p) (h3 : p < 3) : ∀ w, (Instr.index 30 (.agg cs) (.int .i64 p)).run Try.prog w = .ok (.agg (cs.extract (p.toNat * 4) (p.toNat * 4 + 4))) w := by
  intro w
  simp [Instr.index, go_sem, part, h0, h3]
theorem index_cells (cs : Array Value) (c : Int) (v : Value) (h0 : 0 ≤ c) (h3 : c < 3) (hv : cs[c.toNat]? = some v) : ∀ w, (Instr.index 27 (.agg cs) (.int .i64 c)).run Try.prog w = .ok v w := by
  intro w
  simp [Instr.index, go_sem, part, h0, h3, hv]
theorem field_cells (a b c d : Value) : ∀ w, (Instr.field 29 (.agg #[a, b, c, d]) 0).run Try.prog w = .ok (.agg #[a, b, c]) w := by
  intro w
  simp [Instr.field, go_sem, part, asAgg]
end Go.Proofs.Ytgojonhjhdbpkaa.B
