/- == of arrays of arrays of numbers; modelBegun answers true. -/
import Derived.Test.YtgojonhjhdbpkaaMod3
import Derived.Test.YtgojonhjhdbpkaaLogL2
namespace Go.Proofs.Ytgojonhjhdbpkaa.B
set_option maxRecDepth 100000
open Go.ChangeShapes Go.WideShapes Go.ChangeAt Go.RowKit

theorem eq_cells (d : Nat) (w : World) (x0 x1 x2 x3 x4 x5 x6 x7 x8 : Int) : (Op.equalIn (d + 3) 43 (.agg #[.int .i64 x0, .int .i64 x1, .int .i64 x2, .int .i64 x3, .int .i64 x4, .int .i64 x5, .int .i64 x6, .int .i64 x7, .int .i64 x8]) (.agg #[.int .i64 x0, .int .i64 x1, .int .i64 x2, .int .i64 x3, .int .i64 x4, .int .i64 x5, .int .i64 x6, .int .i64 x7, .int .i64 x8])).run Try.prog w = .ok true w := by
  rw [run_equalIn_array (P := Try.prog) w (d + 2) _ _ Try.underlying43 (i := (Try.prog.info? 27).getD default) (by kernel_rfl)]
  have e := fun w => eq_arr3 d w x0 x1 x2 x0 x1 x2
  have f := fun w => eq_arr3 d w x3 x4 x5 x3 x4 x5
  have g := fun w => eq_arr3 d w x6 x7 x8 x6 x7 x8
  simp only [beq_self_eq_true, Bool.and_self] at e f g
  simp [Op.eqItems, List.range_succ, go_sem, cellsArr, part, ↓e, ↓f, ↓g]
/-- The same, as the walk asks it. -/
theorem eql_cells (x0 x1 x2 x3 x4 x5 x6 x7 x8 : Int) : ∀ w, (Op.equalIn 10000 43 (.agg #[.int .i64 x0, .int .i64 x1, .int .i64 x2, .int .i64 x3, .int .i64 x4, .int .i64 x5, .int .i64 x6, .int .i64 x7, .int .i64 x8]) (.agg #[.int .i64 x0, .int .i64 x1, .int .i64 x2, .int .i64 x3, .int .i64 x4, .int .i64 x5, .int .i64 x6, .int .i64 x7, .int .i64 x8])).run Try.prog w = .ok true w := fun w => eq_cells 9997 w x0 x1 x2 x3 x4 x5 x6 x7 x8
theorem some_wins : winsOr someL = [2] := by decide +kernel
theorem some_cells : cellsOr someL = [0, 0, 0, 0, 6, 0, 0, 0, 0] := by decide +kernel
def zeroL : List Rc := [⟨0, 0, 0, 0, 0, 0, 0, 0⟩]
theorem zero_err : logErr zeroL = 4 := by decide +kernel
theorem zero_cells : cellsOr zeroL = [0, 0, 0, 0, 0, 0, 0, 0, 0] := by decide +kernel
/-- One record of noughts. -/
theorem make1 (V : World) : (Instr.makeSlice 22 (.int .i64 1) (.int .i64 1)).run Try.prog V = .ok (.slice (some ⟨V.heap.size, 0, none⟩) 1 1) (V.alloc (.cells (flat zeroL).toArray 39)) := by
  obtain ⟨i0, hi, hz0, hz1, hz2⟩ := info_parts infoRec
  have h := run_makeSlice (P := Try.prog) V 22 39 i0 _ underRecs hi hz0 .i64 .i64 1 1 (by decide) (by decide) (by rw [hz1]; decide) (by rw [hz2]; decide) (by decide)
  rw [hz1] at h
  have e : madeCells (Value.agg #[.int .i64 0, .int .i64 0, .int .i64 0, .int .i64 0, .int .i64 0, .int .i64 0, .int .i64 0, .int .i64 0]).cells (Int.toNat 1 * 8) = (flat zeroL).toArray := by kernel_rfl
  rw [e] at h
  exact h
theorem ints_one {W : World} {b : Nat} {v : Int} {t : TypeId} (J : Blk W b #[.int .i64 v] t) : Ints 0 W (some ⟨b, 0, none⟩) [v] := by
  refine Or.inr ⟨_, Nat.zero_le _, rfl, fun i hi => ?_⟩
  have : i = 0 := by simp at hi; omega
  subst this
  rw [J.cell]; rfl
set_option maxHeartbeats 400000 in
theorem modelBegun_any (w : World) :
    Calls Try.prog 30 #[] w fun e w' => e = .returned (.bool true) ∧ Ext w w' := by
  go_enter Try.func30, Try.ntmps30
  have E0 := Ext.refl w
  go_wp2_with fail
  refine (some_any _).mono ?_
  rintro e w1 ⟨b0, rfl, hw, hb0, B0⟩
  have E1 : Ext w w1 := Ext.trans (E0) hw
  clear E0 hw
  go_wp2_with fail
  refine (cells_any (some ⟨b0, 0, none⟩) 9 9 someL _ (recs_blk B0) (by decide)).mono ?_
  rintro e w2 ⟨rfl, hw⟩
  rw [some_err, some_cells, show ints [0, 0, 0, 0, 6, 0, 0, 0, 0] = #[.int .i64 0, .int .i64 0, .int .i64 0, .int .i64 0, .int .i64 6, .int .i64 0, .int .i64 0, .int .i64 0, .int .i64 0] from rfl]
  have E2 : Ext w w2 := Ext.trans (E1) hw
  clear E1 hw B0 hb0
  have P := Blk.new w2 w2.heap.size #[.int .i64 0, .int .i64 0, .int .i64 0, .int .i64 0, .int .i64 6, .int .i64 0, .int .i64 0, .int .i64 0, .int .i64 0] 43 rfl
  go_wp2_with fail
  refine (some_any _).mono ?_
  rintro e w3 ⟨b1, rfl, hw, hb1, B1⟩
  have E3 : Ext w w3 := Ext.trans (E2.alloc _) hw
  replace P := P.ext hw
  clear E2 hw
  go_wp2_with fail
  refine (wins_any (some ⟨b1, 0, none⟩) 9 9 someL _ (recs_blk B1) (by decide)).mono ?_
  rintro e w4 ⟨⟨aw, cw, rfl, hcw, hI⟩, hw⟩
  rw [some_wins] at hI ⊢
  rw [some_err]
  have E4 : Ext w w4 := Ext.trans (E3) hw
  replace P := P.ext hw
  clear E3 hw B1 hb1 hcw
  have hmk := make1 w4
  go_wp2_with fail
  have B2 := Blk.new w4 w4.heap.size (flat zeroL).toArray 39 rfl
  refine (cells_any (some ⟨w4.heap.size, 0, none⟩) 1 1 zeroL _ (recs_blk B2) (by decide)).mono ?_
  rintro e w5 ⟨rfl, hw⟩
  rw [zero_err, zero_cells, show ints [0, 0, 0, 0, 0, 0, 0, 0, 0] = #[.int .i64 0, .int .i64 0, .int .i64 0, .int .i64 0, .int .i64 0, .int .i64 0, .int .i64 0, .int .i64 0, .int .i64 0] from rfl]
  have E5 : Ext w w5 := Ext.trans (E4.alloc _) hw
  have hx5 := ((Ext.refl w4).alloc (.cells (flat zeroL).toArray 39)).trans hw
  replace P := P.ext hx5
  replace hI := hI.ext hx5
  clear E4 hw hmk B2 hx5
  have e1 := eql_cells 0 0 0 0 6 0 0 0 0
  replace P := P.alloc (.cells #[.int .i64 0, .int .i64 0, .int .i64 0, .int .i64 0, .int .i64 0, .int .i64 0, .int .i64 0, .int .i64 0, .int .i64 0] 43)
  replace hI := hI.ext ((Ext.refl w5).alloc (.cells #[.int .i64 0, .int .i64 0, .int .i64 0, .int .i64 0, .int .i64 0, .int .i64 0, .int .i64 0, .int .i64 0, .int .i64 0] 43))
  replace E5 := E5.alloc (.cells #[.int .i64 0, .int .i64 0, .int .i64 0, .int .i64 0, .int .i64 0, .int .i64 0, .int .i64 0, .int .i64 0, .int .i64 0] 43)
  have pc := P.cell
  go_wp2_with fail
  have J := Blk.new (w5.alloc (.cells #[.int .i64 0, .int .i64 0, .int .i64 0, .int .i64 0, .int .i64 0, .int .i64 0, .int .i64 0, .int .i64 0, .int .i64 0] 43)) (w5.heap.size + 1) #[.int .i64 2] 3 (by simp)
  have hJ := ints_one J
  refine (sameInts_eq _ _ aw (some ⟨w5.heap.size + 1, 0, none⟩) cw 1 [2] _ (hI.ext ((Ext.refl _).alloc _)) hJ (by decide)).mono ?_
  rintro e w6 ⟨rfl, hw⟩
  go_wp2_with fail
  go_ret
  exact ⟨rfl, (E5.alloc _).trans hw⟩
end Go.Proofs.Ytgojonhjhdbpkaa.B
