/- wireBegun answers true. -/
import Derived.Test.YtbfefocehnafgaaDoorWire9
namespace Go.Proofs.YtbfefocehnafgaaDoor.B
set_option maxRecDepth 100000
open Go.ChangeShapes Go.WideShapes Go.ChangeAt Go.RowKit

theorem wireRead_any (s : List UInt8) (w : World) (hm : s.length ≤ maxLen) (hE : Early w) :
    Calls Tryd.prog 8 #[txt s] w fun e w' => Ext w w' ∧ RdW w' e (readV s) (readX s) := by
  unfold readV readX
  by_cases h : 4096 < s.length
  · simp only [if_pos h]; exact wireRead_many s w h hm
  · simp only [if_neg h]; exact wireRead_few s w (by omega) hE _ _ ⟨rfl, rfl⟩
def labW : Wd := ⟨zPg, ⟨0, 6, 0, 2⟩, zPg, someL, 6⟩
theorem labW_err : labW.err = 0 := lab_err
theorem labB_len : (wdBytes labW).length = 66 := by decide +kernel
theorem labB_read : readV (wdBytes labW) = labW ∧ readX (wdBytes labW) = 0 := by
  unfold readV readX
  rw [if_neg (by rw [labB_len]; decide), if_neg (by rw [labB_len]; decide), from_back labW_err]
  exact ⟨rfl, rfl⟩
theorem labX_read : readX (wdBytes labW ++ [120]) = 1 := by decide +kernel
theorem cat_eq (a b : List UInt8) : (⟨a.toArray⟩ : ByteArray) ++ ⟨b.toArray⟩ = ⟨(a ++ b).toArray⟩ := by
  apply ByteArray.ext
  simp
set_option maxHeartbeats 8000000 in
theorem wireBegun_any (w : World) (hE : Early w) :
    Calls Tryd.prog 9 #[] w fun e w' => e = .returned (.bool true) ∧ Ext w w' := by
  have HW := fun W b (i : LogIn W (some ⟨b, 0, none⟩) 9 9 someL) => wireWrite_any zPg ⟨0, 6, 0, 2⟩ zPg (some ⟨b, 0, none⟩) 9 9 someL 6 W i
  rw [lab_err, if_pos rfl] at HW
  have HR := fun W (e : Early W) => wireRead_any (wdBytes labW) W (by rw [labB_len]; decide) e
  rw [labB_read.1, labB_read.2] at HR
  have HX := fun W (e : Early W) => wireRead_any (wdBytes labW ++ [120]) W (by rw [List.length_append, labB_len]; decide) e
  rw [labX_read] at HX
  have hcat : Hid ((⟨(wdBytes labW).toArray⟩ : ByteArray) ++ ⟨#[120]⟩ = ⟨(wdBytes labW ++ [120]).toArray⟩) := cat_eq (wdBytes labW) [120]
  have hl := labB_len
  generalize readV (wdBytes labW ++ [120]) = VX at *
  obtain ⟨p3, q3, r3, m3, s3⟩ := VX
  change ∀ W b, LogIn W (some ⟨b, 0, none⟩) 9 9 someL → Calls Tryd.prog 5 #[wdVal zPg ⟨0, 6, 0, 2⟩ zPg (.slice (some ⟨b, 0, none⟩) 9 9) 6] W fun e w' => e = .returned (.tuple #[txt (wdBytes labW), .int .i64 0]) ∧ Ext W w' at HW
  unfold RdW at HR HX
  unfold labW at HR
  dsimp only at HR HX
  rw [show someL.length = 9 from rfl] at HR
  change ∀ W, Early W → Calls Tryd.prog 8 #[txt (wdBytes labW)] W _ at HR
  generalize wdBytes labW = lb at *
  generalize lb ++ [120] = lx at *
  go_enter Tryd.func9, Tryd.ntmps9
  have E0 := Ext.refl w
  go_wp2_with fail
  refine (lab_any _).mono ?_
  rintro e w1 ⟨b1, rfl, hw, hb1, B1⟩
  have E1 := E0.trans hw
  clear hw E0 hb1
  go_wp2_with fail
  refine (HW _ _ ⟨recs_blk B1, by decide, by decide, by simp⟩).mono ?_
  rintro e w2 ⟨rfl, hw⟩
  have E2 := E1.trans hw
  clear hw E1 B1 HW
  go_wp2_with fail
  refine (HR _ (hE.ext E2)).mono ?_
  rintro e w3 ⟨hw, a3, cap3, rfl, L3⟩
  have o3 := (Ext.refl w3).alloc (.cells (wdCells zPg ⟨0, 6, 0, 2⟩ zPg (.slice a3 9 cap3) 6) 28)
  have X3 := Blk.new w3 w3.heap.size (wdCells zPg ⟨0, 6, 0, 2⟩ zPg (.slice a3 9 cap3) 6) 28 rfl
  have E3 := (E2.trans hw).trans o3
  have R3 := L3.ext o3
  clear hw o3 E2 L3 HR
  go_wp2_with fail
  rw [hcat.out]
  refine (HX _ (hE.ext E3)).mono ?_
  rintro e w4 ⟨hw, a4, cap4, rfl, _⟩
  have o4 := hw.alloc (.cells (wdCells p3 q3 r3 (.slice a4 m3.length cap4) s3) 28)
  have E4 := E3.trans o4
  have X4 := X3.ext o4
  have R4 := R3.ext o4
  clear hw o4 E3 X3 R3 HX hcat
  generalize w3.heap.size = bx at *
  go_wp2_with fail
  generalize w4.alloc (.cells (wdCells p3 q3 r3 (.slice a4 m3.length cap4) s3) 28) = W at *
  obtain ⟨F, hF⟩ := calm_there W
  have KC : Hid (∀ w', Ext W w' → ∃ v, w' = F v) := fun w' e => ⟨w', (hF.same w' e).symm⟩
  have xc := hF.cell X4
  refine wp_region_line (S := fun w' => ∃ v, w' = F v) [12, 4, 0] (by kernel_rfl) (by kernel_rfl) (fun c a d v w h => by cases d <;> exact h) (by kernel_rfl) (KC.out _ (Ext.refl W).drew) ?_
  simp only [cutL, List.drop_succ_cons, List.drop_zero, List.take_succ_cons, List.take_zero]
  have F0 := (Ext.refl W).drew
  refine wpLine_cons ?_
  repeat (go_big_quiet_step (fail))
  refine wpQuiet_nil ?_
  intro K hK
  rw [if_pos (by kernel_rfl)]
  go_simp
  refine hK.out _ _ (KC.out _ F0) (fun _ => ?_)
  clear hK K
  refine wpLine_cons ?_
  repeat (go_big_quiet_step (fail))
  refine wpQuiet_nil ?_
  intro K hK
  rw [if_pos (by kernel_rfl)]
  go_simp
  refine (lab_any _).mono ?_
  rintro e v1 ⟨b5, rfl, hw, _, B5⟩
  have F1 := F0.trans hw
  clear hw
  go_wp2_with fail
  refine hK.out _ _ (KC.out _ F1) (fun _ => ?_)
  clear hK K
  refine wpLine_cons ?_
  refine wpQuiet_nil ?_
  intro K hK
  rw [if_pos (by kernel_rfl)]
  go_simp
  refine (sameWorlds_eq zPg ⟨0, 6, 0, 2⟩ zPg 6 a3 (some ⟨b5, 0, none⟩) 9 cap3 9 someL _ (R4.ext F1).recs (recs_blk B5) (by decide)).mono ?_
  rintro e v2 ⟨rfl, hw⟩
  have F2 := F1.trans hw
  clear hw
  go_wp2_with fail
  refine hK.out _ _ (KC.out _ F2) (fun _ => ?_)
  clear hK K
  refine wpLine_nil ?_
  repeat (go_big_quiet_step (fail))
  refine wpQuiet_nil ?_
  go_wp2_with fail
  go_ret
  exact ⟨by first | rfl | simp, E4.trans F2⟩
end Go.Proofs.YtbfefocehnafgaaDoor.B
