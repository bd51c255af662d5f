/- workBegun answers true. -/
import Derived.Test.YtmccggfegllfnaaWorkA
import Derived.Test.YtmccggfegllfnaaDesk4
namespace Go.Proofs.Ytmccggfegllfnaa.B
set_option maxRecDepth 100000
open Go.ChangeShapes Go.WideShapes Go.ChangeAt Go.RowKit

def labL1 : List Rc := [⟨1, 1, 0, 0, 0, 0, 5, 0⟩, ⟨1, 2, 0, 1, 1, 0, 6, 0⟩, ⟨1, 1, 1, 0, 1, 0, 7, 0⟩, ⟨2, 2, 2, 0, 0, 0, 0, 0⟩, ⟨4, 2, 4, 0, 0, 0, 0, 0⟩, ⟨3, 1, 3, 0, 1, 7, 0, 1⟩, ⟨3, 1, 6, 0, 0, 5, 0, 0⟩, ⟨4, 1, 7, 0, 0, 0, 0, 0⟩, ⟨1, 3, 0, 0, 0, 0, 8, 0⟩, ⟨1, 4, 0, 2, 2, 0, 9, 0⟩]
def labL2 : List Rc := [⟨1, 1, 0, 0, 0, 0, 5, 0⟩, ⟨1, 2, 0, 1, 1, 0, 6, 0⟩, ⟨1, 1, 1, 0, 1, 0, 7, 0⟩, ⟨2, 2, 2, 0, 0, 0, 0, 0⟩, ⟨4, 2, 4, 0, 0, 0, 0, 0⟩, ⟨3, 1, 3, 0, 1, 7, 0, 1⟩, ⟨3, 1, 6, 0, 0, 5, 0, 0⟩, ⟨4, 1, 7, 0, 0, 0, 0, 0⟩, ⟨1, 3, 0, 0, 0, 0, 8, 0⟩, ⟨1, 4, 0, 2, 2, 0, 9, 0⟩, ⟨2, 4, 10, 0, 0, 0, 0, 0⟩, ⟨4, 4, 11, 0, 0, 0, 0, 0⟩]
theorem labL1_eq : someL ++ [writeRec someL 4 2 2 9] = labL1 := by kernel_rfl
theorem labL2_eq : (labL1 ++ [commitRec labL1 4]) ++ [endRec labL1 4] = labL2 := by kernel_rfl
theorem good1 : errOf (worldErr zPg ⟨0, 6, 0, 2⟩ zPg someL 6) (writeErr someL 4 2 2 9) = 0 := by decide +kernel
theorem good2 : errOf (worldErr zPg ⟨0, 6, 0, 2⟩ zPg labL1 6) (commitErr labL1 4) = 0 := by decide +kernel
theorem bad1 : errOf (worldErr zPg ⟨0, 6, 0, 2⟩ zPg someL 6) (writeErr someL 4 0 0 9) = 5 := by decide +kernel
theorem bad2 : errOf (worldErr zPg ⟨0, 6, 0, 2⟩ zPg someL 6) (writeErr someL 2 2 2 9) = 6 := by decide +kernel
theorem bad3 : errOf (worldErr zPg ⟨0, 6, 0, 2⟩ zPg someL 6) (commitErr someL 4) = 7 := by decide +kernel
theorem bad4 : errOf (worldErr zPg ⟨0, 6, 0, 2⟩ zPg someL 6) (commitErr someL 1) = 6 := by decide +kernel
theorem bad5 : errOf (worldErr zPg ⟨0, 6, 0, 2⟩ zPg someL 6) (writeErr someL 10 0 0 0) = 3 := by decide +kernel
set_option maxHeartbeats 16000000 in
theorem workBegun_any (w : World) :
    Calls Try.prog 14 #[] w fun e w' => e = .returned (.bool true) ∧ Ext w w' := by
  go_enter Try.func14, Try.ntmps14
  have E0 := Ext.refl w
  go_wp2_with fail
  refine (lab_any _).mono ?_
  rintro e w1 ⟨b0, rfl, hw, hb0, B0⟩
  have E1 := E0.trans hw
  clear hw E0 hb0
  go_wp2_with fail
  refine (workWrite_any zPg ⟨0, 6, 0, 2⟩ zPg (some ⟨b0, 0, none⟩) 9 9 someL 6 4 2 2 9 _ ⟨recs_blk B0, by decide, by decide, by simp⟩).mono ?_
  rintro e w2 ⟨hw, ⟨_, a1, cap1, rfl, hin, _⟩ | ⟨hx, _⟩⟩
  rotate_left
  · exact absurd good1 hx
  rw [labL1_eq] at hin ⊢
  rw [show labL1.length = 10 from rfl] at hin ⊢
  have X := Blk.new w2 w2.heap.size (wdCells zPg ⟨0, 6, 0, 2⟩ zPg (.slice a1 10 cap1) 6) 28 rfl
  have hx2 := (Ext.refl w2).alloc (.cells (wdCells zPg ⟨0, 6, 0, 2⟩ zPg (.slice a1 10 cap1) 6) 28)
  have E2 := (E1.trans hw).trans hx2
  replace hin := hin.ext hx2
  clear hw E1 B0 hx2
  have xc := X.cell
  go_wp2_with fail
  refine (workCommit_any zPg ⟨0, 6, 0, 2⟩ zPg a1 10 cap1 labL1 6 4 _ hin).mono ?_
  rintro e w3 ⟨hw, ⟨_, a2, cap2, rfl, hin2, _⟩ | ⟨hx, _⟩⟩
  rotate_left
  · exact absurd good2 hx
  rw [labL2_eq] at hin2 ⊢
  rw [show labL2.length = 12 from rfl] at hin2 ⊢
  rw [show ((labL1.length + 1 : Nat) : Int) = 11 from rfl]
  replace X := (X.ext hw).alloc (.cells (wdCells zPg ⟨0, 6, 0, 2⟩ zPg (.slice a2 12 cap2) 11) 28)
  have Y := Blk.new w3 w3.heap.size (wdCells zPg ⟨0, 6, 0, 2⟩ zPg (.slice a2 12 cap2) 11) 28 rfl
  have hx3 := (Ext.refl w3).alloc (.cells (wdCells zPg ⟨0, 6, 0, 2⟩ zPg (.slice a2 12 cap2) 11) 28)
  have E0b := (E2.trans hw).trans hx3
  replace hin := hin.ext (hw.trans hx3)
  replace hin2 := hin2.ext hx3
  clear hw E2 hx3 xc
  have HX := (show Hid (Blk _ _ _ _) from X)
  have HY := (show Hid (Blk _ _ _ _) from Y)
  have HI1 := (show Hid (LogIn _ _ _ _ _) from hin)
  have HI2 := (show Hid (LogIn _ _ _ _ _) from hin2)
  have hX1 := Ext.refl (w3.alloc (.cells (wdCells zPg ⟨0, 6, 0, 2⟩ zPg (.slice a2 12 cap2) 11) 28))
  clear X Y hin hin2
  go_wp2_with fail
  refine (lab_any _).mono ?_
  rintro e u1 ⟨c1, rfl, hw, hc1, C1⟩
  have E1a := E0b.trans hw
  have hX1a := hX1.trans hw
  clear hw hc1
  go_wp2_with fail
  refine (workWrite_any zPg ⟨0, 6, 0, 2⟩ zPg (some ⟨c1, 0, none⟩) 9 9 someL 6 4 0 0 9 _ ⟨recs_blk C1, by decide, by decide, by simp⟩).mono ?_
  rintro e v1 ⟨hw, ⟨hx, _⟩ | ⟨_, rfl⟩⟩
  · rw [bad1] at hx; exact absurd hx (by decide)
  rw [bad1]
  have E1b := (E1a.trans hw).alloc (.cells (wdCells noPg noPg noPg (.slice none 0 0) 0) 28)
  have hX2 := (hX1a.trans hw).alloc (.cells (wdCells noPg noPg noPg (.slice none 0 0) 0) 28)
  clear hw C1 E1a hX1a hX1
  go_wp2_with fail
  refine (lab_any _).mono ?_
  rintro e u2 ⟨c2, rfl, hw, hc2, C2⟩
  have E2a := E1b.trans hw
  have hX2a := hX2.trans hw
  clear hw hc2
  go_wp2_with fail
  refine (workWrite_any zPg ⟨0, 6, 0, 2⟩ zPg (some ⟨c2, 0, none⟩) 9 9 someL 6 2 2 2 9 _ ⟨recs_blk C2, by decide, by decide, by simp⟩).mono ?_
  rintro e v2 ⟨hw, ⟨hx, _⟩ | ⟨_, rfl⟩⟩
  · rw [bad2] at hx; exact absurd hx (by decide)
  rw [bad2]
  have E2b := (E2a.trans hw).alloc (.cells (wdCells noPg noPg noPg (.slice none 0 0) 0) 28)
  have hX3 := (hX2a.trans hw).alloc (.cells (wdCells noPg noPg noPg (.slice none 0 0) 0) 28)
  clear hw C2 E2a hX2a hX2
  go_wp2_with fail
  refine (lab_any _).mono ?_
  rintro e u3 ⟨c3, rfl, hw, hc3, C3⟩
  have E3a := E2b.trans hw
  have hX3a := hX3.trans hw
  clear hw hc3
  go_wp2_with fail
  refine (workCommit_any zPg ⟨0, 6, 0, 2⟩ zPg (some ⟨c3, 0, none⟩) 9 9 someL 6 4 _ ⟨recs_blk C3, by decide, by decide, by simp⟩).mono ?_
  rintro e v3 ⟨hw, ⟨hx, _⟩ | ⟨_, rfl⟩⟩
  · rw [bad3] at hx; exact absurd hx (by decide)
  rw [bad3]
  have E3b := (E3a.trans hw).alloc (.cells (wdCells noPg noPg noPg (.slice none 0 0) 0) 28)
  have hX4 := (hX3a.trans hw).alloc (.cells (wdCells noPg noPg noPg (.slice none 0 0) 0) 28)
  clear hw C3 E3a hX3a hX3
  go_wp2_with fail
  refine (lab_any _).mono ?_
  rintro e u4 ⟨c4, rfl, hw, hc4, C4⟩
  have E4a := E3b.trans hw
  have hX4a := hX4.trans hw
  clear hw hc4
  go_wp2_with fail
  refine (workCommit_any zPg ⟨0, 6, 0, 2⟩ zPg (some ⟨c4, 0, none⟩) 9 9 someL 6 1 _ ⟨recs_blk C4, by decide, by decide, by simp⟩).mono ?_
  rintro e v4 ⟨hw, ⟨hx, _⟩ | ⟨_, rfl⟩⟩
  · rw [bad4] at hx; exact absurd hx (by decide)
  rw [bad4]
  have E4b := (E4a.trans hw).alloc (.cells (wdCells noPg noPg noPg (.slice none 0 0) 0) 28)
  have hX5 := (hX4a.trans hw).alloc (.cells (wdCells noPg noPg noPg (.slice none 0 0) 0) 28)
  clear hw C4 E4a hX4a hX4
  go_wp2_with fail
  refine (lab_any _).mono ?_
  rintro e u5 ⟨c5, rfl, hw, hc5, C5⟩
  have E5a := E4b.trans hw
  have hX5a := hX5.trans hw
  clear hw hc5
  go_wp2_with fail
  refine (workWrite_any zPg ⟨0, 6, 0, 2⟩ zPg (some ⟨c5, 0, none⟩) 9 9 someL 6 10 0 0 0 _ ⟨recs_blk C5, by decide, by decide, by simp⟩).mono ?_
  rintro e v5 ⟨hw, ⟨hx, _⟩ | ⟨_, rfl⟩⟩
  · rw [bad5] at hx; exact absurd hx (by decide)
  rw [bad5]
  have E5b := (E5a.trans hw).alloc (.cells (wdCells noPg noPg noPg (.slice none 0 0) 0) 28)
  have hX6 := (hX5a.trans hw).alloc (.cells (wdCells noPg noPg noPg (.slice none 0 0) 0) 28)
  clear hw C5 E5a hX5a hX5
  have X := HX.out.ext hX6
  have Y := HY.out.ext hX6
  have hin := HI1.out.ext hX6
  have hin2 := HI2.out.ext hX6
  clear HX HY HI1 HI2 hX6
  obtain ⟨b1, o1, rfl, _, hr1⟩ := hin.recs.at (k := 9) (by decide)
  obtain ⟨b2, o2, rfl, _, hr2⟩ := hin2.recs.at (k := 10) (by decide)
  obtain ⟨b3, o3, he3, _, hr3⟩ := hin2.recs.at (k := 11) (by decide)
  simp only [Option.some.injEq, Addr.mk.injEq, and_true] at he3
  obtain ⟨rfl, rfl⟩ := he3
  have hc1 : 10 ≤ cap1 := hin.le
  have hc2 : 12 ≤ cap2 := hin2.le
  have e1 := eql_rec ⟨1, 4, 0, 2, 2, 0, 9, 0⟩ ⟨1, 4, 0, 2, 2, 0, 9, 0⟩
  have e2 := eql_rec ⟨2, 4, 10, 0, 0, 0, 0, 0⟩ ⟨2, 4, 10, 0, 0, 0, 0, 0⟩
  have e3 := eql_rec ⟨4, 4, 11, 0, 0, 0, 0, 0⟩ ⟨4, 4, 11, 0, 0, 0, 0, 0⟩
  rw [eqRc_refl] at e1 e2 e3
  go_wp2_with fail
  generalize v5.alloc (.cells (wdCells noPg noPg noPg (.slice none 0 0) 0) 28) = W at *
  obtain ⟨F, hF⟩ := calm_there W
  have KC : Hid (∀ w', Ext W w' → ∃ v, w' = F v) := fun w' e => ⟨w', (hF.same w' e).symm⟩
  have xc := hF.cell X
  have yc := hF.cell Y
  have r10 : ∀ x, (F x).cell? ⟨b1, o1 + 72, none⟩ = some (.int .i64 1) := fun x => (hr1.ext (hF.ext x)).1
  have r11 : ∀ x, (F x).cell? ⟨b1, o1 + 73, none⟩ = some (.int .i64 4) := fun x => (hr1.ext (hF.ext x)).2.1
  have r12 : ∀ x, (F x).cell? ⟨b1, o1 + 74, none⟩ = some (.int .i64 0) := fun x => (hr1.ext (hF.ext x)).2.2.1
  have r13 : ∀ x, (F x).cell? ⟨b1, o1 + 75, none⟩ = some (.int .i64 2) := fun x => (hr1.ext (hF.ext x)).2.2.2.1
  have r14 : ∀ x, (F x).cell? ⟨b1, o1 + 76, none⟩ = some (.int .i64 2) := fun x => (hr1.ext (hF.ext x)).2.2.2.2.1
  have r15 : ∀ x, (F x).cell? ⟨b1, o1 + 77, none⟩ = some (.int .i64 0) := fun x => (hr1.ext (hF.ext x)).2.2.2.2.2.1
  have r16 : ∀ x, (F x).cell? ⟨b1, o1 + 78, none⟩ = some (.int .i64 9) := fun x => (hr1.ext (hF.ext x)).2.2.2.2.2.2.1
  have r17 : ∀ x, (F x).cell? ⟨b1, o1 + 79, none⟩ = some (.int .i64 0) := fun x => (hr1.ext (hF.ext x)).2.2.2.2.2.2.2
  have r20 : ∀ x, (F x).cell? ⟨b2, o2 + 80, none⟩ = some (.int .i64 2) := fun x => (hr2.ext (hF.ext x)).1
  have r21 : ∀ x, (F x).cell? ⟨b2, o2 + 81, none⟩ = some (.int .i64 4) := fun x => (hr2.ext (hF.ext x)).2.1
  have r22 : ∀ x, (F x).cell? ⟨b2, o2 + 82, none⟩ = some (.int .i64 10) := fun x => (hr2.ext (hF.ext x)).2.2.1
  have r23 : ∀ x, (F x).cell? ⟨b2, o2 + 83, none⟩ = some (.int .i64 0) := fun x => (hr2.ext (hF.ext x)).2.2.2.1
  have r24 : ∀ x, (F x).cell? ⟨b2, o2 + 84, none⟩ = some (.int .i64 0) := fun x => (hr2.ext (hF.ext x)).2.2.2.2.1
  have r25 : ∀ x, (F x).cell? ⟨b2, o2 + 85, none⟩ = some (.int .i64 0) := fun x => (hr2.ext (hF.ext x)).2.2.2.2.2.1
  have r26 : ∀ x, (F x).cell? ⟨b2, o2 + 86, none⟩ = some (.int .i64 0) := fun x => (hr2.ext (hF.ext x)).2.2.2.2.2.2.1
  have r27 : ∀ x, (F x).cell? ⟨b2, o2 + 87, none⟩ = some (.int .i64 0) := fun x => (hr2.ext (hF.ext x)).2.2.2.2.2.2.2
  have r30 : ∀ x, (F x).cell? ⟨b2, o2 + 88, none⟩ = some (.int .i64 4) := fun x => (hr3.ext (hF.ext x)).1
  have r31 : ∀ x, (F x).cell? ⟨b2, o2 + 89, none⟩ = some (.int .i64 4) := fun x => (hr3.ext (hF.ext x)).2.1
  have r32 : ∀ x, (F x).cell? ⟨b2, o2 + 90, none⟩ = some (.int .i64 11) := fun x => (hr3.ext (hF.ext x)).2.2.1
  have r33 : ∀ x, (F x).cell? ⟨b2, o2 + 91, none⟩ = some (.int .i64 0) := fun x => (hr3.ext (hF.ext x)).2.2.2.1
  have r34 : ∀ x, (F x).cell? ⟨b2, o2 + 92, none⟩ = some (.int .i64 0) := fun x => (hr3.ext (hF.ext x)).2.2.2.2.1
  have r35 : ∀ x, (F x).cell? ⟨b2, o2 + 93, none⟩ = some (.int .i64 0) := fun x => (hr3.ext (hF.ext x)).2.2.2.2.2.1
  have r36 : ∀ x, (F x).cell? ⟨b2, o2 + 94, none⟩ = some (.int .i64 0) := fun x => (hr3.ext (hF.ext x)).2.2.2.2.2.2.1
  have r37 : ∀ x, (F x).cell? ⟨b2, o2 + 95, none⟩ = some (.int .i64 0) := fun x => (hr3.ext (hF.ext x)).2.2.2.2.2.2.2
  simp only [List.append_eq, List.cons_append, List.nil_append]
  refine wp_region_line (S := fun w' => ∃ v, w' = F v) [29, 7, 10, 12, 7] (by kernel_rfl) (by kernel_rfl) (fun c a d v w h => by cases d <;> exact h) (by kernel_rfl) (KC.out _ (Ext.refl W).drew) ?_
  simp only [cutL, List.drop_succ_cons, List.drop_zero, List.take_succ_cons, List.take_zero]
  have F0 := (Ext.refl W).drew
  clear hr1 hr2 hr3 hin hin2 X Y
  refine wpLine_cons ?_
  repeat (go_big_quiet_step (fail))
  refine wpQuiet_nil ?_
  intro K hK
  rw [if_pos (by kernel_rfl)]
  go_simp
  refine hK.out _ _ (KC.out _ F0) (fun _ => ?_)
  clear hK K
  refine wpLine_cons ?_
  repeat (go_big_quiet_step (fail))
  refine wpQuiet_nil ?_
  intro K hK
  rw [if_pos (by kernel_rfl)]
  go_simp
  refine (wr_any 4 0 2 2 0 9 _).mono ?_
  rintro e z0 ⟨rfl, hw⟩
  have F1 := F0.trans hw
  clear hw
  go_wp2_with fail
  refine hK.out _ _ (KC.out _ F1) (fun _ => ?_)
  clear hK K
  refine wpLine_cons ?_
  repeat (go_big_quiet_step (fail))
  refine wpQuiet_nil ?_
  intro K hK
  rw [if_pos (by kernel_rfl)]
  go_simp
  refine hK.out _ _ (KC.out _ F1) (fun _ => ?_)
  clear hK K
  refine wpLine_cons ?_
  repeat (go_big_quiet_step (fail))
  refine wpQuiet_nil ?_
  intro K hK
  rw [if_pos (by kernel_rfl)]
  go_simp
  refine (cm_any 4 10 _).mono ?_
  rintro e z1 ⟨rfl, hw⟩
  have F2 := F1.trans hw
  clear hw
  go_wp2_with fail
  refine hK.out _ _ (KC.out _ F2) (fun _ => ?_)
  clear hK K
  refine wpLine_cons ?_
  repeat (go_big_quiet_step (fail))
  refine wpQuiet_nil ?_
  intro K hK
  rw [if_pos (by kernel_rfl)]
  go_simp
  refine (en_any 4 11 _).mono ?_
  rintro e z2 ⟨rfl, hw⟩
  have F3 := F2.trans hw
  clear hw
  go_wp2_with fail
  refine hK.out _ _ (KC.out _ F3) (fun _ => ?_)
  clear hK K
  refine wpLine_nil ?_
  repeat (go_big_quiet_step (fail))
  refine wpQuiet_nil ?_
  go_wp2_with fail
  go_ret
  exact ⟨rfl, E5b.trans F3⟩
end Go.Proofs.Ytmccggfegllfnaa.B
