/- mendBegun answers true. -/
import Derived.Test.YtlpodahldpaniaaGreatCrew9
import Derived.Test.YtlpodahldpaniaaGreatDesk4
namespace Go.Proofs.YtlpodahldpaniaaGreat.B
set_option maxRecDepth 100000
open Go.ChangeShapes Go.WideShapes Go.ChangeAt Go.RowKit

abbrev half1L : List Rc := mendN (1 : Int).toNat (someL.take (6 : Int).toNat)
abbrev allL : List Rc := mendR (someL.take (6 : Int).toNat)
theorem mb1 : errOf (worldErr zPg ⟨0, 6, 0, 2⟩ zPg someL 6) (mendErr (someL.take (6 : Int).toNat)) = 0 := by decide +kernel
theorem mb2 : needR (someL.take (6 : Int).toNat) = 2 := by decide +kernel
theorem mb3 : allL.length = 8 := by decide +kernel
theorem mb4 : pagesR allL = [0, 0, 0, 7, 0, 6, 0, 2, 0, 0, 0, 0] := by decide +kernel
theorem mb5 : errOf (worldErr zPg ⟨0, 6, 0, 2⟩ zPg someL 6) (halfX 1 3 (someL.take (6 : Int).toNat)) = 0 := by decide +kernel
theorem mb6 : half1L.length = 7 := by decide +kernel
theorem mb7 : pagesR half1L = [0, 0, 0, 7, 0, 6, 0, 2, 0, 0, 0, 0] := by decide +kernel
theorem mb8 : errOf (worldErr zPg ⟨0, 6, 0, 2⟩ zPg someL 6) (halfX (-1) 3 (someL.take (6 : Int).toNat)) = 3 := by decide +kernel
theorem mb9 : errOf (worldErr zPg ⟨0, 6, 0, 2⟩ zPg someL 6) (halfX 1 0 (someL.take (6 : Int).toNat)) = 1 := by decide +kernel
theorem mb10 : half1L.take (7 : Int).toNat = half1L := by rw [show (7 : Int).toNat = half1L.length from by rw [mb6]; rfl, List.take_length]
theorem mb11 : errOf (worldErr ⟨0, 0, 0, 7⟩ ⟨0, 6, 0, 2⟩ zPg half1L 7) (mendErr half1L) = 0 := by decide +kernel
theorem mb12 : needR half1L = 1 := by decide +kernel
theorem mb13 : mendR half1L = allL := by
  have hR : Right (someL.take (6 : Int).toNat) := (logErr_zero (by decide +kernel : logErr (someL.take (6 : Int).toNat) = 0)).2
  exact (mendR_part hR (by decide +kernel) 1).2.1
theorem bools_blk {w : World} {b : Nat} {t : TypeId} {b0 b1 b2 : Bool} (h : Blk w b #[.bool b0, .bool b1, .bool b2] t) : Bools w (some ⟨b, 0, none⟩) 3 [b0, b1, b2] := by
  refine ⟨rfl, Or.inr ⟨b, 0, rfl, fun i hi => ?_⟩⟩
  rw [Nat.zero_add, h.cell]
  match i, hi with
  | 0, _ => rfl
  | 1, _ => rfl
  | 2, _ => rfl
set_option maxHeartbeats 8000000 in
theorem mendBegun_any (w : World) :
    Calls Tryz.prog 8 #[] w fun e w' => e = .returned (.bool true) ∧ Ext w w' := by
  go_enter Tryz.func8, Tryz.ntmps8
  have E0 := Ext.refl w
  go_wp2_with fail
  refine (lab_any _).mono ?_
  rintro e u1 ⟨b1, rfl, hw, hb1, B1⟩
  have E1a := E0.trans hw
  clear hw E0 hb1
  go_wp2_with fail
  refine (mendAll_any zPg ⟨0, 6, 0, 2⟩ zPg (some ⟨b1, 0, none⟩) 9 9 someL 6 _ ⟨recs_blk B1, by decide, by decide, by simp⟩).mono ?_
  rintro e v1 ⟨hw, ⟨_, a1, cap1, rfl, L1, _⟩ | ⟨hx, _⟩⟩
  rotate_left
  · exact absurd mb1 hx
  rw [mb2, mb3, mb4]
  rw [mb3] at L1
  rw [show pgAt [0, 0, 0, 7, 0, 6, 0, 2, 0, 0, 0, 0] 0 = ⟨0, 0, 0, 7⟩ from rfl, show pgAt [0, 0, 0, 7, 0, 6, 0, 2, 0, 0, 0, 0] 1 = ⟨0, 6, 0, 2⟩ from rfl, show pgAt [0, 0, 0, 7, 0, 6, 0, 2, 0, 0, 0, 0] 2 = ⟨0, 0, 0, 0⟩ from rfl]
  have R1 := L1.recs
  have hx1 := hw.alloc (.cells (wdCells ⟨0, 0, 0, 7⟩ ⟨0, 6, 0, 2⟩ ⟨0, 0, 0, 0⟩ (.slice a1 8 cap1) 8) 28)
  have E1 := E1a.trans hx1
  have X := Blk.new v1 v1.heap.size (wdCells ⟨0, 0, 0, 7⟩ ⟨0, 6, 0, 2⟩ ⟨0, 0, 0, 0⟩ (.slice a1 8 cap1) 8) 28 rfl
  replace R1 := R1.ext ((Ext.refl v1).alloc (.cells (wdCells ⟨0, 0, 0, 7⟩ ⟨0, 6, 0, 2⟩ ⟨0, 0, 0, 0⟩ (.slice a1 8 cap1) 8) 28))
  clear hw hx1 E1a B1 L1
  go_wp2_with fail
  refine (lab_any _).mono ?_
  rintro e u2 ⟨b2, rfl, hw, hb2, B2⟩
  have T2 := bools_blk (Blk.new u2 u2.heap.size #[.bool true, .bool false, .bool false] 4 rfl)
  have o2 := hw.alloc (.cells #[.bool true, .bool false, .bool false] 4)
  have E2a := E1.trans o2
  replace X := X.ext o2
  replace R1 := R1.ext o2
  replace B2 := B2.alloc (.cells #[.bool true, .bool false, .bool false] 4)
  clear hw E1 hb2 o2
  go_wp2_with fail
  refine (mendHalf_any zPg ⟨0, 6, 0, 2⟩ zPg (some ⟨b2, 0, none⟩) 9 9 someL 6 1 (some ⟨u2.heap.size, 0, none⟩) 3 3 [true, false, false] _ ⟨recs_blk B2, by decide, by decide, by simp⟩ T2 (by decide)).mono ?_
  rintro e v2 ⟨hw, ⟨_, a2, cap2, rfl, L2, _⟩ | ⟨hx, _⟩⟩
  rotate_left
  · exact absurd mb5 hx
  rw [mb6]
  rw [mb6] at L2
  rw [show laidPg half1L ([true, false, false].getD 0 false) 0 zPg = ⟨0, 0, 0, 7⟩ from by show pgAt (pagesR half1L) 0 = _; rw [mb7]; rfl, show laidPg half1L ([true, false, false].getD 1 false) 1 ⟨0, 6, 0, 2⟩ = ⟨0, 6, 0, 2⟩ from rfl, show laidPg half1L ([true, false, false].getD 2 false) 2 zPg = ⟨0, 0, 0, 0⟩ from rfl]
  have o2 := hw.alloc (.cells (wdCells ⟨0, 0, 0, 7⟩ ⟨0, 6, 0, 2⟩ ⟨0, 0, 0, 0⟩ (.slice a2 7 cap2) 7) 28)
  have E2 := E2a.trans o2
  replace X := X.ext o2
  replace R1 := R1.ext o2
  have Y := Blk.new v2 v2.heap.size (wdCells ⟨0, 0, 0, 7⟩ ⟨0, 6, 0, 2⟩ ⟨0, 0, 0, 0⟩ (.slice a2 7 cap2) 7) 28 rfl
  replace L2 := L2.ext ((Ext.refl v2).alloc (.cells (wdCells ⟨0, 0, 0, 7⟩ ⟨0, 6, 0, 2⟩ ⟨0, 0, 0, 0⟩ (.slice a2 7 cap2) 7) 28))
  clear hw o2 E2a B2 T2
  go_wp2_with fail
  refine (lab_any _).mono ?_
  rintro e u3 ⟨b3, rfl, hw, hb3, B3⟩
  have T3 := bools_blk (Blk.new u3 u3.heap.size #[.bool true, .bool false, .bool false] 4 rfl)
  have o3 := hw.alloc (.cells #[.bool true, .bool false, .bool false] 4)
  have E3a := E2.trans o3
  replace X := X.ext o3
  replace R1 := R1.ext o3
  replace Y := Y.ext o3
  replace L2 := L2.ext o3
  replace B3 := B3.alloc (.cells #[.bool true, .bool false, .bool false] 4)
  clear hw E2 hb3 o3
  go_wp2_with fail
  refine (mendHalf_any zPg ⟨0, 6, 0, 2⟩ zPg (some ⟨b3, 0, none⟩) 9 9 someL 6 (-1) (some ⟨u3.heap.size, 0, none⟩) 3 3 [true, false, false] _ ⟨recs_blk B3, by decide, by decide, by simp⟩ T3 (by decide)).mono ?_
  rintro e v3 ⟨hw, ⟨hx, _⟩ | ⟨_, rfl⟩⟩
  · rw [mb8] at hx; exact absurd hx (by decide)
  rw [mb8]
  have o3 := hw.alloc (.cells (wdCells noPg noPg noPg (.slice none 0 0) 0) 28)
  have E3 := E3a.trans o3
  replace X := X.ext o3
  replace R1 := R1.ext o3
  replace Y := Y.ext o3
  replace L2 := L2.ext o3
  clear hw o3 E3a B3 T3
  go_wp2_with fail
  refine (lab_any _).mono ?_
  rintro e u4 ⟨b4, rfl, hw, hb4, B4⟩
  have E4a := E3.trans hw
  replace X := X.ext hw
  replace R1 := R1.ext hw
  replace Y := Y.ext hw
  replace L2 := L2.ext hw
  clear hw E3 hb4
  go_wp2_with fail
  refine (mendHalf_any zPg ⟨0, 6, 0, 2⟩ zPg (some ⟨b4, 0, none⟩) 9 9 someL 6 1 none 0 0 [] _ ⟨recs_blk B4, by decide, by decide, by simp⟩ ⟨rfl, Or.inl rfl⟩ (by decide)).mono ?_
  rintro e v4 ⟨hw, ⟨hx, _⟩ | ⟨_, rfl⟩⟩
  · rw [mb9] at hx; exact absurd hx (by decide)
  rw [mb9]
  have o4 := hw.alloc (.cells (wdCells noPg noPg noPg (.slice none 0 0) 0) 28)
  have E4 := E4a.trans o4
  replace X := X.ext o4
  replace R1 := R1.ext o4
  replace Y := Y.ext o4
  replace L2 := L2.ext o4
  clear hw o4 E4a B4
  have yc := Y.cell
  go_wp2_with fail
  have H5 := mendAll_any ⟨0, 0, 0, 7⟩ ⟨0, 6, 0, 2⟩ ⟨0, 0, 0, 0⟩ a2 7 cap2 half1L 7 _ L2
  rw [mb10, mb13, mb12, mb3, mb4, mb11] at H5
  refine H5.mono ?_
  rintro e v5 ⟨hw, ⟨_, a5, cap5, rfl, L5, _⟩ | ⟨hx, _⟩⟩
  rotate_left
  · exact absurd rfl hx
  rw [mb3] at L5 ⊢
  rw [show pgAt [0, 0, 0, 7, 0, 6, 0, 2, 0, 0, 0, 0] 0 = ⟨0, 0, 0, 7⟩ from rfl, show pgAt [0, 0, 0, 7, 0, 6, 0, 2, 0, 0, 0, 0] 1 = ⟨0, 6, 0, 2⟩ from rfl, show pgAt [0, 0, 0, 7, 0, 6, 0, 2, 0, 0, 0, 0] 2 = ⟨0, 0, 0, 0⟩ from rfl]
  have o5 := hw.alloc (.cells (wdCells ⟨0, 0, 0, 7⟩ ⟨0, 6, 0, 2⟩ ⟨0, 0, 0, 0⟩ (.slice a5 8 cap5) 8) 28)
  have E5 := E4.trans o5
  replace X := X.ext o5
  replace R1 := R1.ext o5
  replace Y := Y.ext o5
  have V := Blk.new v5 v5.heap.size (wdCells ⟨0, 0, 0, 7⟩ ⟨0, 6, 0, 2⟩ ⟨0, 0, 0, 0⟩ (.slice a5 8 cap5) 8) 28 rfl
  have R5 := L5.recs.ext ((Ext.refl v5).alloc (.cells (wdCells ⟨0, 0, 0, 7⟩ ⟨0, 6, 0, 2⟩ ⟨0, 0, 0, 0⟩ (.slice a5 8 cap5) 8) 28))
  clear hw o5 E4 H5 L5 L2 yc
  have xc := X.cell
  have yc := Y.cell
  have vc := V.cell
  have e1 := eql_page ⟨0, 0, 0, 7⟩ ⟨0, 0, 0, 7⟩
  rw [eqPg_refl] at e1
  go_wp2_with fail
  refine (sameWorlds_eq ⟨0, 0, 0, 7⟩ ⟨0, 6, 0, 2⟩ ⟨0, 0, 0, 0⟩ 8 a5 a1 8 cap5 cap1 allL _ R5 R1 (by decide)).mono ?_
  rintro e v6 ⟨rfl, hw⟩
  go_wp2_with fail
  go_ret
  exact ⟨by simp, E5.trans hw⟩
end Go.Proofs.YtlpodahldpaniaaGreat.B
