/- logBegun answers true. -/
import Derived.Test.YtgojonhjhdbpkaaLogL1
import Derived.Test.YtgojonhjhdbpkaaLine
namespace Go.Proofs.Ytgojonhjhdbpkaa.B
set_option maxRecDepth 100000
open Go.ChangeShapes Go.WideShapes Go.ChangeAt Go.RowKit

set_option maxHeartbeats 8000000 in
set_option maxRecDepth 100000 in
theorem logBegun_any (w : World) :
    Calls Try.prog 17 #[] w fun e w' => e = .returned (.bool true) ∧ Ext w w' := by
  go_enter Try.func17, Try.ntmps17
  have E0 := Ext.refl w
  go_wp2_with fail
  refine (some_any _).mono ?_
  rintro e w1 ⟨b0, rfl, hw, hb0, B0⟩
  have E1 : Ext w w1 := Ext.trans (E0) hw
  clear E0 hw
  go_wp2_with fail
  refine (logPages_any (some ⟨b0, 0, none⟩) 9 9 someL _ (recs_blk B0) (by decide)).mono ?_
  rintro e w2 ⟨rfl, hw⟩
  rw [some_err, some_pages, show ints [8, 0, 0, 9, 0, 6, 0, 2, 0, 0, 0, 0] = #[.int .i64 8, .int .i64 0, .int .i64 0, .int .i64 9, .int .i64 0, .int .i64 6, .int .i64 0, .int .i64 2, .int .i64 0, .int .i64 0, .int .i64 0, .int .i64 0] from rfl]
  have E2 : Ext w w2 := Ext.trans (E1) hw
  clear E1 hw
  clear B0 hb0
  have P := Blk.new w2 w2.heap.size #[.int .i64 8, .int .i64 0, .int .i64 0, .int .i64 9, .int .i64 0, .int .i64 6, .int .i64 0, .int .i64 2, .int .i64 0, .int .i64 0, .int .i64 0, .int .i64 0] 30 rfl
  go_wp2_with fail
  refine (some_any _).mono ?_
  rintro e w3 ⟨b1, rfl, hw, hb1, B1⟩
  have E3 : Ext w w3 := Ext.trans (E2.alloc _) hw
  replace P := P.ext hw
  clear E2 hw
  go_wp2_with fail
  refine (logState_any (some ⟨b1, 0, none⟩) 9 9 someL 1 _ (recs_blk B1) (by decide)).mono ?_
  rintro e w4 ⟨rfl, hw⟩
  rw [some_1]
  have E4 : Ext w w4 := Ext.trans (E3) hw
  replace P := P.ext hw
  clear E3 hw
  clear B1 hb1
  go_wp2_with fail
  refine (some_any _).mono ?_
  rintro e w5 ⟨b2, rfl, hw, hb2, B2⟩
  have E5 : Ext w w5 := Ext.trans (E4) hw
  replace P := P.ext hw
  clear E4 hw
  go_wp2_with fail
  refine (logState_any (some ⟨b2, 0, none⟩) 9 9 someL 3 _ (recs_blk B2) (by decide)).mono ?_
  rintro e w6 ⟨rfl, hw⟩
  rw [some_3]
  have E6 : Ext w w6 := Ext.trans (E5) hw
  replace P := P.ext hw
  clear E5 hw
  clear B2 hb2
  go_wp2_with fail
  refine (some_any _).mono ?_
  rintro e w7 ⟨b3, rfl, hw, hb3, B3⟩
  have E7 : Ext w w7 := Ext.trans (E6) hw
  replace P := P.ext hw
  clear E6 hw
  go_wp2_with fail
  refine (logState_any (some ⟨b3, 0, none⟩) 9 9 someL 10 _ (recs_blk B3) (by decide)).mono ?_
  rintro e w8 ⟨rfl, hw⟩
  rw [some_10]
  have E8 : Ext w w8 := Ext.trans (E7) hw
  replace P := P.ext hw
  clear E7 hw
  clear B3 hb3
  go_wp2_with fail
  refine (some_any _).mono ?_
  rintro e w9 ⟨b4, rfl, hw, hb4, B4⟩
  have E9 : Ext w w9 := Ext.trans (E8) hw
  replace P := P.ext hw
  clear E8 hw
  go_wp2_with fail
  refine (logState_any (some ⟨b4, 0, none⟩) 7 9 (someL.take 7) 1 _ ((recs_blk B4).take 7 (by decide)) (by decide)).mono ?_
  rintro e w10 ⟨rfl, hw⟩
  rw [some_7]
  have E10 : Ext w w10 := Ext.trans (E9) hw
  replace P := P.ext hw
  clear E9 hw
  clear B4 hb4
  go_wp2_with fail
  refine (some_any _).mono ?_
  rintro e w11 ⟨b5, rfl, hw, hb5, B5⟩
  have E11 : Ext w w11 := Ext.trans (E10) hw
  replace P := P.ext hw
  clear E10 hw
  go_wp2_with fail
  refine (logState_any (some ⟨b5, 0, none⟩) 4 9 (someL.take 4) 2 _ ((recs_blk B5).take 4 (by decide)) (by decide)).mono ?_
  rintro e w12 ⟨rfl, hw⟩
  rw [some_4]
  have E12 : Ext w w12 := Ext.trans (E11) hw
  replace P := P.ext hw
  clear E11 hw
  clear B5 hb5
  have S12 := E12.size
  have p12 := P.lt
  go_wp2_with fail
  refine (some_any _).mono ?_
  rintro e w13 ⟨b6, rfl, hw, hb6, B6⟩
  have E13 : Ext w w13 := Ext.trans (E12) hw
  replace P := P.ext hw
  clear E12 hw
  have c69 : w13.cell? ⟨b6, 69, none⟩ = some (.int .i64 0) := by rw [B6.cell]; rfl
  have f69 := B6.fr 69
  have X := B6.set 69 (.int .i64 5)
  rw [show (flat someL).toArray.setIfInBounds 69 (.int .i64 5) = (flat someX).toArray from rfl] at X
  replace P := P.other ⟨b6, 69, none⟩ (.int .i64 5) (by dsimp only; omega)
  have EX := E13.setCell (p := ⟨b6, 69, none⟩) (by dsimp only; omega) (.int .i64 5)
  clear B6
  have S13 := EX.size
  have p13 := P.lt
  have x13 := X.lt
  go_wp2_with fail
  refine (some_any _).mono ?_
  rintro e w14 ⟨b7, rfl, hw, hb7, B7⟩
  have E14 : Ext w w14 := Ext.trans (EX) hw
  replace P := P.ext hw
  replace X := X.ext hw
  clear E13 hw
  clear EX c69 f69
  have c47 : w14.cell? ⟨b7, 47, none⟩ = some (.int .i64 1) := by rw [B7.cell]; rfl
  have f47 := B7.fr 47
  have Y := B7.set 47 (.int .i64 0)
  rw [show (flat someL).toArray.setIfInBounds 47 (.int .i64 0) = (flat someY).toArray from rfl] at Y
  replace P := P.other ⟨b7, 47, none⟩ (.int .i64 0) (by dsimp only; omega)
  replace X := X.other ⟨b7, 47, none⟩ (.int .i64 0) (by dsimp only; omega)
  have EX := E14.setCell (p := ⟨b7, 47, none⟩) (by dsimp only; omega) (.int .i64 0)
  clear B7
  have S14 := EX.size
  have p14 := P.lt
  have x14 := X.lt
  have y14 := Y.lt
  go_wp2_with fail
  have e1 := eql_page ⟨8, 0, 0, 9⟩ ⟨8, 0, 0, 9⟩
  have e2 := eql_page ⟨0, 6, 0, 2⟩ ⟨0, 6, 0, 2⟩
  rw [eqPg_refl] at e1 e2
  clear c47 f47 E14 hb6 hb7 S12 S13 S14 p12 p13 p14 x13 x14 y14
  generalize w14.setCell ⟨b7, 47, none⟩ (.int .i64 0) = W at *
  obtain ⟨F, hF⟩ := calm_there W
  have KC : Hid (∀ w', Ext W w' → ∃ v, w' = F v) := fun w' e => ⟨w', (hF.same w' e).symm⟩
  have pc := hF.cell P
  simp only [List.append_eq, List.cons_append, List.nil_append]
  refine wp_region_line (S := fun w' => ∃ v, w' = F v) [23, 0, 4, 4, 3, 1, 0, 0, 0, 3, 0] (by kernel_rfl) (by kernel_rfl) (fun c a d v w h => by cases d <;> exact h) (by kernel_rfl) (KC.out _ (Ext.refl W).drew) ?_
  simp only [cutL, List.drop_succ_cons, List.drop_zero, List.take_succ_cons, List.take_zero]
  have F0 := (Ext.refl W).drew
  refine wpLine_cons ?_
  repeat (go_big_quiet_step (fail))
  refine wpQuiet_nil ?_
  intro K hK
  rw [if_pos (by kernel_rfl)]
  go_simp
  refine (some_any _).mono ?_
  rintro e v1 ⟨b8, rfl, hw, hb8, B8⟩
  have F1 : Ext W v1 := F0.trans hw
  go_wp2_with fail
  refine hK.out _ _ (KC.out _ F1) (fun _ => ?_)
  clear hK K
  refine wpLine_cons ?_
  repeat (go_big_quiet_step (fail))
  refine wpQuiet_nil ?_
  intro K hK
  rw [if_pos (by kernel_rfl)]
  go_simp
  refine (logCheck_any (some ⟨b8, 0, none⟩) 9 9 someL _ (recs_blk B8) (by decide)).mono ?_
  rintro e v2 ⟨rfl, hw⟩
  rw [some_err]
  have F2 : Ext W v2 := F1.trans hw
  go_wp2_with fail
  refine hK.out _ _ (KC.out _ F2) (fun _ => ?_)
  clear hK K
  clear B8 hb8
  refine wpLine_cons ?_
  repeat (go_big_quiet_step (fail))
  refine wpQuiet_nil ?_
  intro K hK
  rw [if_pos (by kernel_rfl)]
  go_simp
  refine (logCheck_any (some ⟨b6, 0, none⟩) 9 9 someX _ (recs_blk (X.ext F2)) (by decide)).mono ?_
  rintro e v3 ⟨rfl, hw⟩
  rw [someX_err]
  have F3 : Ext W v3 := F2.trans hw
  go_wp2_with fail
  refine hK.out _ _ (KC.out _ F3) (fun _ => ?_)
  clear hK K
  refine wpLine_cons ?_
  repeat (go_big_quiet_step (fail))
  refine wpQuiet_nil ?_
  intro K hK
  rw [if_pos (by kernel_rfl)]
  go_simp
  refine (logCheck_any (some ⟨b7, 0, none⟩) 9 9 someY _ (recs_blk (Y.ext F3)) (by decide)).mono ?_
  rintro e v4 ⟨rfl, hw⟩
  rw [someY_err]
  have F4 : Ext W v4 := F3.trans hw
  go_wp2_with fail
  refine hK.out _ _ (KC.out _ F4) (fun _ => ?_)
  clear hK K
  refine wpLine_cons ?_
  repeat (go_big_quiet_step (fail))
  refine wpQuiet_nil ?_
  intro K hK
  rw [if_pos (by kernel_rfl)]
  go_simp
  refine (some_any _).mono ?_
  rintro e v5 ⟨b8, rfl, hw, hb8, B8⟩
  have F5 : Ext W v5 := F4.trans hw
  go_wp2_with fail
  refine hK.out _ _ (KC.out _ F5) (fun _ => ?_)
  clear hK K
  refine wpLine_cons ?_
  repeat (go_big_quiet_step (fail))
  refine wpQuiet_nil ?_
  intro K hK
  rw [if_pos (by kernel_rfl)]
  go_simp
  refine (wr_any 2 2 0 0 5 6 _).mono ?_
  rintro e v6 ⟨rfl, hw⟩
  replace B8 := B8.ext hw
  have F6 : Ext W v6 := F5.trans hw
  go_wp2_with fail
  refine hK.out _ _ (KC.out _ F6) (fun _ => ?_)
  clear hK K
  refine wpLine_cons ?_
  repeat (go_big_quiet_step (fail))
  refine wpQuiet_nil ?_
  intro K hK
  rw [if_pos (by kernel_rfl)]
  go_simp
  have C9 := Blk.new v6 v6.heap.size (Rc.mk 1 2 2 0 0 5 6 0).cs 39 rfl
  replace B8 := B8.alloc (.cells (Rc.mk 1 2 2 0 0 5 6 0).cs 39)
  replace F6 := F6.alloc (.cells (Rc.mk 1 2 2 0 0 5 6 0).cs 39)
  refine hK.out _ _ (KC.out _ F6) (fun _ => ?_)
  clear hK K
  refine wpLine_cons ?_
  repeat (go_big_quiet_step (fail))
  obtain ⟨V, hrun, B9, hV⟩ := append_z B8 C9 22
  refine wpQuiet_nil ?_
  intro K hK
  rw [if_pos (by kernel_rfl)]
  unfold Oper.wp
  simp [execOp, resolve, invoke, builtin, Act.eval, hrun, Result.andThen]
  have F7 := hV W F6 (Nat.le_trans F4.size hb8)
  refine hK.out _ _ (KC.out _ F7) (fun _ => ?_)
  clear hK K hrun hV
  refine wpLine_cons ?_
  repeat (go_big_quiet_step (fail))
  refine wpQuiet_nil ?_
  intro K hK
  rw [if_pos (by kernel_rfl)]
  go_simp
  refine (logCheck_any (some ⟨b8, 0, none⟩) 3 9 someZ _ ((recs_blk B9).take 3 (by decide)) (by decide)).mono ?_
  rintro e v8 ⟨rfl, hw⟩
  rw [someZ_err]
  have F8 : Ext W v8 := F7.trans hw
  go_wp2_with fail
  refine hK.out _ _ (KC.out _ F8) (fun _ => ?_)
  clear hK K
  refine wpLine_cons ?_
  repeat (go_big_quiet_step (fail))
  obtain ⟨ob, hmk⟩ := make61 v8
  refine wpQuiet_nil ?_
  intro K hK
  rw [if_pos (by kernel_rfl)]
  go_simp
  replace F8 := F8.alloc ob
  refine hK.out _ _ (KC.out _ F8) (fun _ => ?_)
  clear hK K hmk
  refine wpLine_cons ?_
  repeat (go_big_quiet_step (fail))
  refine wpQuiet_nil ?_
  intro K hK
  rw [if_pos (by kernel_rfl)]
  go_simp
  refine (logCheck_many _ 61 61 _ (by decide) (by decide)).mono ?_
  rintro e v9 ⟨rfl, hw⟩
  have F9 : Ext W v9 := F8.trans hw
  go_wp2_with fail
  refine hK.out _ _ (KC.out _ F9) (fun _ => ?_)
  clear hK K
  refine wpLine_nil ?_
  repeat (go_big_quiet_step (fail))
  refine wpQuiet_nil ?_
  go_wp2_with fail
  go_ret
  exact ⟨rfl, EX.trans F9⟩
end Go.Proofs.Ytgojonhjhdbpkaa.B
