/- rollBegun answers true. -/
import Derived.Test.YtmccggfegllfnaaRoll1
import Derived.Test.YtmccggfegllfnaaDesk4
namespace Go.Proofs.Ytmccggfegllfnaa.B
set_option maxRecDepth 100000
open Go.ChangeShapes Go.WideShapes Go.ChangeAt Go.RowKit

def labA : List Rc := [⟨1, 1, 0, 0, 0, 0, 5, 0⟩, ⟨1, 2, 0, 1, 1, 0, 6, 0⟩, ⟨1, 1, 1, 0, 1, 0, 7, 0⟩, ⟨2, 2, 2, 0, 0, 0, 0, 0⟩, ⟨4, 2, 4, 0, 0, 0, 0, 0⟩, ⟨3, 1, 3, 0, 1, 7, 0, 1⟩, ⟨3, 1, 6, 0, 0, 5, 0, 0⟩, ⟨4, 1, 7, 0, 0, 0, 0, 0⟩, ⟨1, 3, 0, 0, 0, 0, 8, 0⟩, ⟨3, 3, 9, 0, 0, 8, 0, 0⟩, ⟨4, 3, 10, 0, 0, 0, 0, 0⟩]
theorem labA_eq : abortR someL 3 = labA := by kernel_rfl
theorem abGood : errOf (worldErr zPg ⟨0, 6, 0, 2⟩ zPg someL 6) (abortErr someL 3) = 0 := by decide +kernel
theorem step3 : stepAns someL 3 = (⟨3, 3, 9, 0, 0, 8, 0, 0⟩, 0) := by kernel_rfl
theorem step2 : stepAns someL 2 = (zRc, 6) := by kernel_rfl
theorem step4 : stepAns someL 4 = (zRc, 7) := by kernel_rfl
theorem step1 : stepAns (someL.take 7) 1 = (⟨4, 1, 7, 0, 0, 0, 0, 0⟩, 0) := by kernel_rfl
theorem recs_take {w : World} {b : Nat} {t : TypeId} {l : List Rc} (h : Blk w b (flat l).toArray t) (k : Nat) (hk : k ≤ l.length) : Recs w (some ⟨b, 0, none⟩) k (l.take k) := by
  have := (recs_blk h).take k hk
  exact this
set_option maxHeartbeats 16000000 in
theorem rollBegun_any (w : World) :
    Calls Try.prog 17 #[] w fun e w' => e = .returned (.bool true) ∧ Ext w w' := by
  go_enter Try.func17, Try.ntmps17
  have E0 := Ext.refl w
  go_wp2_with fail
  refine (some_any _).mono ?_
  rintro e w1 ⟨b0, rfl, hw, hb0, B0⟩
  have E1 := E0.trans hw
  clear hw E0 hb0
  go_wp2_with fail
  refine (rollStep_any (some ⟨b0, 0, none⟩) 9 9 someL 3 _ (recs_blk B0) (by decide)).mono ?_
  rintro e w2 ⟨rfl, hw⟩
  rw [step3]
  have R := Blk.new w2 w2.heap.size #[.int .i64 3, .int .i64 3, .int .i64 9, .int .i64 0, .int .i64 0, .int .i64 8, .int .i64 0, .int .i64 0] 41 rfl
  have E2 := (E1.trans hw).alloc (.cells #[.int .i64 3, .int .i64 3, .int .i64 9, .int .i64 0, .int .i64 0, .int .i64 8, .int .i64 0, .int .i64 0] 41)
  clear hw E1 B0
  go_wp2_with fail
  refine (lab_any _).mono ?_
  rintro e w3 ⟨b1, rfl, hw, hb1, B1⟩
  have E3 := E2.trans hw
  replace R := R.ext hw
  clear hw E2 hb1
  go_wp2_with fail
  refine (rollAbort_any zPg ⟨0, 6, 0, 2⟩ zPg (some ⟨b1, 0, none⟩) 9 9 someL 6 3 _ ⟨recs_blk B1, by decide, by decide, by simp⟩).mono ?_
  rintro e w4 ⟨hw, ⟨_, a1, cap1, rfl, hin, _⟩ | ⟨hx, _⟩⟩
  rotate_left
  · exact absurd abGood hx
  rw [labA_eq] at hin ⊢
  rw [show labA.length = 11 from rfl] at hin ⊢
  have X := Blk.new w4 w4.heap.size (wdCells zPg ⟨0, 6, 0, 2⟩ zPg (.slice a1 11 cap1) 6) 28 rfl
  have hx4 := (Ext.refl w4).alloc (.cells (wdCells zPg ⟨0, 6, 0, 2⟩ zPg (.slice a1 11 cap1) 6) 28)
  have E4 := (E3.trans hw).trans hx4
  replace R := (R.ext hw).ext hx4
  replace hin := hin.ext hx4
  clear hw E3 hx4 B1
  go_wp2_with fail
  refine (some_any _).mono ?_
  rintro e u5 ⟨b5, rfl, hw, hb5, B5⟩
  have E5a := E4.trans hw
  replace R := R.ext hw
  replace X := X.ext hw
  replace hin := hin.ext hw
  clear hw E4 hb5
  go_wp2_with fail
  refine (rollStep_any (some ⟨b5, 0, none⟩) 9 9 someL 2 _ (recs_blk B5) (by decide)).mono ?_
  rintro e v5 ⟨rfl, hw⟩
  rw [step2]
  have hx := hw.alloc (.cells #[.int .i64 0, .int .i64 0, .int .i64 0, .int .i64 0, .int .i64 0, .int .i64 0, .int .i64 0, .int .i64 0] 41)
  have E5 := E5a.trans hx
  replace R := R.ext hx
  replace X := X.ext hx
  replace hin := hin.ext hx
  clear hw hx E5a B5
  go_wp2_with fail
  refine (some_any _).mono ?_
  rintro e u6 ⟨b6, rfl, hw, hb6, B6⟩
  have E6a := E5.trans hw
  replace R := R.ext hw
  replace X := X.ext hw
  replace hin := hin.ext hw
  clear hw E5 hb6
  go_wp2_with fail
  refine (rollStep_any (some ⟨b6, 0, none⟩) 9 9 someL 4 _ (recs_blk B6) (by decide)).mono ?_
  rintro e v6 ⟨rfl, hw⟩
  rw [step4]
  have hx := hw.alloc (.cells #[.int .i64 0, .int .i64 0, .int .i64 0, .int .i64 0, .int .i64 0, .int .i64 0, .int .i64 0, .int .i64 0] 41)
  have E6 := E6a.trans hx
  replace R := R.ext hx
  replace X := X.ext hx
  replace hin := hin.ext hx
  clear hw hx E6a B6
  go_wp2_with fail
  refine (some_any _).mono ?_
  rintro e u7 ⟨b7, rfl, hw, hb7, B7⟩
  have E7a := E6.trans hw
  replace R := R.ext hw
  replace X := X.ext hw
  replace hin := hin.ext hw
  clear hw E6 hb7
  go_wp2_with fail
  refine (rollStep_any (some ⟨b7, 0, none⟩) 7 9 (someL.take 7) 1 _ (recs_take B7 7 (by decide)) (by decide)).mono ?_
  rintro e v7 ⟨rfl, hw⟩
  rw [step1]
  have hx := hw.alloc (.cells #[.int .i64 4, .int .i64 1, .int .i64 7, .int .i64 0, .int .i64 0, .int .i64 0, .int .i64 0, .int .i64 0] 41)
  have E7 := E7a.trans hx
  replace R := R.ext hx
  replace X := X.ext hx
  replace hin := hin.ext hx
  have Y := Blk.new v7 v7.heap.size #[.int .i64 4, .int .i64 1, .int .i64 7, .int .i64 0, .int .i64 0, .int .i64 0, .int .i64 0, .int .i64 0] 41 rfl
  clear hw hx E7a B7
  obtain ⟨b8, o8, rfl, _, hr⟩ := hin.recs.at (k := 10) (by decide)
  have hc1 : 11 ≤ cap1 := hin.le
  have e1 := eql_rec ⟨3, 3, 9, 0, 0, 8, 0, 0⟩ ⟨3, 3, 9, 0, 0, 8, 0, 0⟩
  have e2 := eql_rec ⟨4, 1, 7, 0, 0, 0, 0, 0⟩ ⟨4, 1, 7, 0, 0, 0, 0, 0⟩
  have e3 := eql_rec ⟨4, 3, 10, 0, 0, 0, 0, 0⟩ ⟨4, 3, 10, 0, 0, 0, 0, 0⟩
  rw [eqRc_refl] at e1 e2 e3
  go_wp2_with fail
  generalize v7.alloc (.cells #[.int .i64 4, .int .i64 1, .int .i64 7, .int .i64 0, .int .i64 0, .int .i64 0, .int .i64 0, .int .i64 0] 41) = W at *
  obtain ⟨F, hF⟩ := calm_there W
  have KC : Hid (∀ w', Ext W w' → ∃ v, w' = F v) := fun w' e => ⟨w', (hF.same w' e).symm⟩
  have rc := hF.cell R
  have xc := hF.cell X
  have yc := hF.cell Y
  have r0 : ∀ x, (F x).cell? ⟨b8, o8 + 80, none⟩ = some (.int .i64 4) := fun x => (hr.ext (hF.ext x)).1
  have r1 : ∀ x, (F x).cell? ⟨b8, o8 + 81, none⟩ = some (.int .i64 3) := fun x => (hr.ext (hF.ext x)).2.1
  have r2 : ∀ x, (F x).cell? ⟨b8, o8 + 82, none⟩ = some (.int .i64 10) := fun x => (hr.ext (hF.ext x)).2.2.1
  have r3 : ∀ x, (F x).cell? ⟨b8, o8 + 83, none⟩ = some (.int .i64 0) := fun x => (hr.ext (hF.ext x)).2.2.2.1
  have r4 : ∀ x, (F x).cell? ⟨b8, o8 + 84, none⟩ = some (.int .i64 0) := fun x => (hr.ext (hF.ext x)).2.2.2.2.1
  have r5 : ∀ x, (F x).cell? ⟨b8, o8 + 85, none⟩ = some (.int .i64 0) := fun x => (hr.ext (hF.ext x)).2.2.2.2.2.1
  have r6 : ∀ x, (F x).cell? ⟨b8, o8 + 86, none⟩ = some (.int .i64 0) := fun x => (hr.ext (hF.ext x)).2.2.2.2.2.2.1
  have r7 : ∀ x, (F x).cell? ⟨b8, o8 + 87, none⟩ = some (.int .i64 0) := fun x => (hr.ext (hF.ext x)).2.2.2.2.2.2.2
  (try simp only [List.append_eq, List.cons_append, List.nil_append])
  refine wp_region_line (S := fun w' => ∃ v, w' = F v) [20, 4, 5, 7] (by kernel_rfl) (by kernel_rfl) (fun c a d v w h => by cases d <;> exact h) (by kernel_rfl) (KC.out _ (Ext.refl W).drew) ?_
  simp only [cutL, List.drop_succ_cons, List.drop_zero, List.take_succ_cons, List.take_zero]
  have F0 := (Ext.refl W).drew
  clear hr hin X Y R
  refine wpLine_cons ?_
  repeat (go_big_quiet_step (fail))
  refine wpQuiet_nil ?_
  intro K hK
  rw [if_pos (by kernel_rfl)]
  go_simp
  refine (bk_any 3 9 0 0 8 0 0 _).mono ?_
  rintro e z0 ⟨rfl, hw⟩
  have F1 := F0.trans hw
  clear hw
  go_wp2_with fail
  refine hK.out _ _ (KC.out _ F1) (fun _ => ?_)
  clear hK K
  refine wpLine_cons ?_
  repeat (go_big_quiet_step (fail))
  refine wpQuiet_nil ?_
  intro K hK
  rw [if_pos (by kernel_rfl)]
  go_simp
  refine (en_any 1 7 _).mono ?_
  rintro e z1 ⟨rfl, hw⟩
  have F2 := F1.trans hw
  clear hw
  go_wp2_with fail
  refine hK.out _ _ (KC.out _ F2) (fun _ => ?_)
  clear hK K
  refine wpLine_cons ?_
  repeat (go_big_quiet_step (fail))
  refine wpQuiet_nil ?_
  intro K hK
  rw [if_pos (by kernel_rfl)]
  go_simp
  refine hK.out _ _ (KC.out _ F2) (fun _ => ?_)
  clear hK K
  refine wpLine_cons ?_
  repeat (go_big_quiet_step (fail))
  refine wpQuiet_nil ?_
  intro K hK
  rw [if_pos (by kernel_rfl)]
  go_simp
  refine (en_any 3 10 _).mono ?_
  rintro e z2 ⟨rfl, hw⟩
  have F3 := F2.trans hw
  clear hw
  go_wp2_with fail
  refine hK.out _ _ (KC.out _ F3) (fun _ => ?_)
  clear hK K
  refine wpLine_nil ?_
  repeat (go_big_quiet_step (fail))
  refine wpQuiet_nil ?_
  go_wp2_with fail
  go_ret
  exact ⟨rfl, E7.trans F3⟩
end Go.Proofs.Ytmccggfegllfnaa.B
