/- The laws' own records, what must be of records in any case, and RecTells and RecTrue. -/
import Derived.Test.YtlpodahldpaniaaGreatRec2
import Derived.Test.YtlpodahldpaniaaGreatOpen
import Derived.Deep.RegionHeld3
namespace Go.Proofs.YtlpodahldpaniaaGreat.B
set_option maxRecDepth 100000
open Go.ChangeShapes Go.WideShapes Go.ChangeAt Go.RowKit

set_option maxHeartbeats 400000 in
theorem wr_any (txn prev at' cell was now : Int) (w : World) :
    Calls Tryz.prog 66 #[.int .i64 txn, .int .i64 prev, .int .i64 at', .int .i64 cell, .int .i64 was, .int .i64 now] w fun e w' => e = .returned (Rc.val ⟨1, txn, prev, at', cell, was, now, 0⟩) ∧ Ext w w' := by
  go_enter Tryz.func66, Tryz.ntmps66
  go_wp2_with fail
  exact bodyPost_ret (v := .agg #[.int .i64 1, .int .i64 txn, .int .i64 prev, .int .i64 at', .int .i64 cell, .int .i64 was, .int .i64 now, .int .i64 0]) (by simp [results, Tryz.results66, go_sem]) rfl ⟨rfl, (Ext.refl _).alloc _⟩

set_option maxHeartbeats 400000 in
theorem cm_any (txn prev : Int) (w : World) :
    Calls Tryz.prog 67 #[.int .i64 txn, .int .i64 prev] w fun e w' => e = .returned (Rc.val ⟨2, txn, prev, 0, 0, 0, 0, 0⟩) ∧ Ext w w' := by
  go_enter Tryz.func67, Tryz.ntmps67
  go_wp2_with fail
  exact bodyPost_ret (v := .agg #[.int .i64 2, .int .i64 txn, .int .i64 prev, .int .i64 0, .int .i64 0, .int .i64 0, .int .i64 0, .int .i64 0]) (by simp [results, Tryz.results67, go_sem]) rfl ⟨rfl, (Ext.refl _).alloc _⟩

set_option maxHeartbeats 400000 in
theorem bk_any (txn prev at' cell was now nx : Int) (w : World) :
    Calls Tryz.prog 69 #[.int .i64 txn, .int .i64 prev, .int .i64 at', .int .i64 cell, .int .i64 was, .int .i64 now, .int .i64 nx] w fun e w' => e = .returned (Rc.val ⟨3, txn, prev, at', cell, was, now, nx⟩) ∧ Ext w w' := by
  go_enter Tryz.func69, Tryz.ntmps69
  go_wp2_with fail
  exact bodyPost_ret (v := .agg #[.int .i64 3, .int .i64 txn, .int .i64 prev, .int .i64 at', .int .i64 cell, .int .i64 was, .int .i64 now, .int .i64 nx]) (by simp [results, Tryz.results69, go_sem]) rfl ⟨rfl, (Ext.refl _).alloc _⟩

set_option maxHeartbeats 400000 in
theorem en_any (txn prev : Int) (w : World) :
    Calls Tryz.prog 68 #[.int .i64 txn, .int .i64 prev] w fun e w' => e = .returned (Rc.val ⟨4, txn, prev, 0, 0, 0, 0, 0⟩) ∧ Ext w w' := by
  go_enter Tryz.func68, Tryz.ntmps68
  go_wp2_with fail
  exact bodyPost_ret (v := .agg #[.int .i64 4, .int .i64 txn, .int .i64 prev, .int .i64 0, .int .i64 0, .int .i64 0, .int .i64 0, .int .i64 0]) (by simp [results, Tryz.results68, go_sem]) rfl ⟨rfl, (Ext.refl _).alloc _⟩

end Go.Proofs.YtlpodahldpaniaaGreat.B
