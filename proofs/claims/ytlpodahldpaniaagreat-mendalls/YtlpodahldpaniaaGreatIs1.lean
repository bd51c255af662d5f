/- The contract of the laws' is, where the cells of the pages are the cells asked. -/
import Derived.Test.YtlpodahldpaniaaGreatMend2
import Derived.Test.YtlpodahldpaniaaGreatAnsB
import Derived.Test.YtlpodahldpaniaaGreatScan2
import Derived.BigQuiet
namespace Go.Proofs.YtlpodahldpaniaaGreat.B
set_option maxRecDepth 100000
open Go.ChangeShapes Go.WideShapes Go.ChangeAt Go.RowKit

/-- The nine cells of three pages. -/
abbrev val9 (p q r : Pg) : Array Value := #[.int .i64 p.c0, .int .i64 p.c1, .int .i64 p.c2, .int .i64 q.c0, .int .i64 q.c1, .int .i64 q.c2, .int .i64 r.c0, .int .i64 r.c1, .int .i64 r.c2]
abbrev val12 (p q r : Pg) : Array Value := #[.int .i64 p.c0, .int .i64 p.c1, .int .i64 p.c2, .int .i64 p.last, .int .i64 q.c0, .int .i64 q.c1, .int .i64 q.c2, .int .i64 q.last, .int .i64 r.c0, .int .i64 r.c1, .int .i64 r.c2, .int .i64 r.last]
theorem eqn_arr (a b c : Int) : ∀ w, (Op.equalIn 10000 22 (.agg #[.int .i64 a, .int .i64 b, .int .i64 c]) (.agg #[.int .i64 a, .int .i64 b, .int .i64 c])).run Tryz.prog w = .ok true w := fun w => by
  have := eql_arr a b c a b c w
  rw [this]
  simp
set_option maxHeartbeats 4000000 in
theorem is_any (p q r : Pg) (w : World) :
    Calls Tryz.prog 16 #[val3 p q r, .agg (val9 p q r)] w fun e w' => e = .returned (.bool true) ∧ Ext w w' := by
  have E0 := ((Ext.refl w).alloc (.cells (val12 p q r) 25)).alloc (.cells (val9 p q r) 40)
  have A := (Blk.new w w.heap.size (val12 p q r) 25 rfl).alloc (.cells (val9 p q r) 40)
  have B := Blk.new (w.alloc (.cells (val12 p q r) 25)) (w.heap.size + 1) (val9 p q r) 40 (by simp)
  have e0 := eqn_arr p.c0 p.c1 p.c2
  have e1 := eqn_arr q.c0 q.c1 q.c2
  have e2 := eqn_arr r.c0 r.c1 r.c2
  go_enter Tryz.func16, Tryz.ntmps16
  go_wp2_with fail
  generalize (w.alloc (.cells (val12 p q r) 25)).alloc (.cells (val9 p q r) 40) = w0 at *
  generalize w.heap.size = bp at *
  go_loopw [5] (fun i wr => ∃ k : Nat, k ≤ 3 ∧ i = .int .i64 k ∧ Ext w wr ∧ Blk wr bp (val12 p q r) 25 ∧ Blk wr (bp + 1) (val9 p q r) 40) (fun i _ => 3 - (intOf i).toNat)
  case atStart => exact ⟨0, Nat.zero_le _, rfl, E0, A, B⟩
  case round =>
    obtain ⟨k, hk, rfl, hE, A1, B1⟩ := hrel
    clear A B E0
    by_cases hlt : k < 3
    · have ac := A1.cell
      have bc := B1.cell
      have hk3 : k = 0 ∨ k = 1 ∨ k = 2 := by omega
      rcases hk3 with rfl | rfl | rfl
      all_goals
        go_wp2_with fail
        go_quiet (fail)
        go_wp2_with fail
        go_roundw
        case rel => first | exact ⟨1, by decide, by go_num, hE.drewN _, A1.drewN _, B1.drewN _⟩ | exact ⟨2, by decide, by go_num, hE.drewN _, A1.drewN _, B1.drewN _⟩ | exact ⟨3, by decide, by go_num, hE.drewN _, A1.drewN _, B1.drewN _⟩
        case measure => simp [intOf]
    · obtain rfl : k = 3 := by omega
      go_wp2_with fail
      go_ret
      exact ⟨rfl, hE⟩
end Go.Proofs.YtlpodahldpaniaaGreat.B
