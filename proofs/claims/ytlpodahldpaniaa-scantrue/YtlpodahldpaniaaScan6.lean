/- scanBegun answers true. -/
import Derived.Test.YtlpodahldpaniaaScan2
import Derived.Test.YtlpodahldpaniaaScan5
namespace Go.Proofs.Ytlpodahldpaniaa.B
set_option maxRecDepth 100000
open Go.ChangeShapes Go.WideShapes Go.ChangeAt Go.RowKit

theorem sc1 : losersOr someL = [3] := by decide +kernel
theorem sc2 : losersOr (someL.take 6) = [1] := by decide +kernel
theorem sc3 : logErr (someL.take 6) = 0 := by decide +kernel
theorem sc4 : redoErr zPg ⟨0, 6, 0, 2⟩ zPg someL 9 = 0 := by decide +kernel
theorem sc5 : redoAns zPg ⟨0, 6, 0, 2⟩ zPg someL 9 = ([8, 0, 0, 9, 0, 6, 0, 2, 0, 0, 0, 0], 5) := by decide +kernel
theorem sc6 : redoErr zPg ⟨0, 6, 0, 2⟩ zPg someL 6 = 1 := by decide +kernel
theorem sc7 : redoAns zPg ⟨0, 6, 0, 2⟩ zPg someL 6 = ([0, 0, 0, 0, 0, 0, 0, 0, 0, 0, 0, 0], 0) := by decide +kernel
set_option maxHeartbeats 8000000 in
theorem scanBegun_any (w : World) :
    Calls Try.prog 13 #[] w fun e w' => e = .returned (.bool true) ∧ Ext w w' := by
  go_enter Try.func13, Try.ntmps13
  have E0 := Ext.refl w
  go_wp2_with fail
  refine (lab_any _).mono ?_
  rintro e u1 ⟨b1, rfl, hw, hb1, B1⟩
  have E1a := E0.trans hw
  clear hw E0 hb1
  go_wp2_with fail
  refine (crash_any zPg ⟨0, 6, 0, 2⟩ zPg (some ⟨b1, 0, none⟩) 9 9 someL 6 _ ⟨recs_blk B1, by decide, by decide, by simp⟩).mono ?_
  rintro e v1 ⟨hw, ⟨_, a1, cap1, rfl, _, _⟩ | ⟨hx, _⟩⟩
  rotate_left
  · exact absurd lab_err hx
  rw [show (someL.take (6 : Int).toNat).length = 6 from rfl]
  have hx1 := hw.alloc (.cells (wdCells zPg ⟨0, 6, 0, 2⟩ zPg (.slice a1 6 cap1) 6) 28)
  have E1 := E1a.trans hx1
  have X := Blk.new v1 v1.heap.size (wdCells zPg ⟨0, 6, 0, 2⟩ zPg (.slice a1 6 cap1) 6) 28 rfl
  clear hw hx1 E1a B1
  go_wp2_with fail
  refine (some_any _).mono ?_
  rintro e u2 ⟨b2, rfl, hw, hb2, B2⟩
  have E2a := E1.trans hw
  replace X := X.ext hw
  clear hw E1 hb2
  go_wp2_with fail
  refine (losers_any (some ⟨b2, 0, none⟩) 9 9 someL _ (recs_blk B2) (by decide)).mono ?_
  rintro e v2 ⟨⟨a2, cap2, rfl, _, I2⟩, hw⟩
  rw [sc1, some_err]
  rw [sc1] at I2
  have E2 := E2a.trans hw
  replace X := X.ext hw
  clear hw E2a B2
  go_wp2_with fail
  refine (some_any _).mono ?_
  rintro e u3 ⟨b3, rfl, hw, hb3, B3⟩
  have E3a := E2.trans hw
  replace X := X.ext hw
  replace I2 := I2.ext hw
  clear hw E2 hb3
  go_wp2_with fail
  refine (losers_any (some ⟨b3, 0, none⟩) 6 9 (someL.take 6) _ ((recs_blk B3).take 6 (by decide)) (by decide)).mono ?_
  rintro e v3 ⟨⟨a3, cap3, rfl, _, I3⟩, hw⟩
  rw [sc2, sc3]
  rw [sc2] at I3
  have E3 := E3a.trans hw
  replace X := X.ext hw
  replace I2 := I2.ext hw
  clear hw E3a B3
  go_wp2_with fail
  refine (lab_any _).mono ?_
  rintro e u4 ⟨b4, rfl, hw, hb4, B4⟩
  have hx4 := hw.alloc (.cells (wdCells zPg ⟨0, 6, 0, 2⟩ zPg (.slice (some ⟨b4, 0, none⟩) 9 9) 9) 28)
  have E4a := E3.trans hx4
  replace X := X.ext hx4
  replace I2 := I2.ext hx4
  replace I3 := I3.ext hx4
  have B4' := B4.alloc (.cells (wdCells zPg ⟨0, 6, 0, 2⟩ zPg (.slice (some ⟨b4, 0, none⟩) 9 9) 9) 28)
  clear hw E3 hb4 hx4 B4
  go_wp2_with fail
  refine (redo_any zPg ⟨0, 6, 0, 2⟩ zPg (some ⟨b4, 0, none⟩) 9 9 someL 9 _ ⟨recs_blk B4', by decide, by decide, by simp⟩).mono ?_
  rintro e v4 ⟨rfl, hw⟩
  rw [sc4, sc5]
  dsimp only
  rw [show ints [8, 0, 0, 9, 0, 6, 0, 2, 0, 0, 0, 0] = #[.int .i64 8, .int .i64 0, .int .i64 0, .int .i64 9, .int .i64 0, .int .i64 6, .int .i64 0, .int .i64 2, .int .i64 0, .int .i64 0, .int .i64 0, .int .i64 0] from rfl]
  have hx4 := hw.alloc (.cells #[.int .i64 8, .int .i64 0, .int .i64 0, .int .i64 9, .int .i64 0, .int .i64 6, .int .i64 0, .int .i64 2, .int .i64 0, .int .i64 0, .int .i64 0, .int .i64 0] 25)
  have E4 := E4a.trans hx4
  replace X := X.ext hx4
  replace I2 := I2.ext hx4
  replace I3 := I3.ext hx4
  have Y := Blk.new v4 v4.heap.size #[.int .i64 8, .int .i64 0, .int .i64 0, .int .i64 9, .int .i64 0, .int .i64 6, .int .i64 0, .int .i64 2, .int .i64 0, .int .i64 0, .int .i64 0, .int .i64 0] 25 rfl
  clear hw hx4 E4a B4'
  go_wp2_with fail
  refine (lab_any _).mono ?_
  rintro e u5 ⟨b5, rfl, hw, hb5, B5⟩
  have E5a := E4.trans hw
  replace X := X.ext hw
  replace Y := Y.ext hw
  replace I2 := I2.ext hw
  replace I3 := I3.ext hw
  clear hw E4 hb5
  go_wp2_with fail
  refine (redo_any zPg ⟨0, 6, 0, 2⟩ zPg (some ⟨b5, 0, none⟩) 9 9 someL 6 _ ⟨recs_blk B5, by decide, by decide, by simp⟩).mono ?_
  rintro e v5 ⟨rfl, hw⟩
  rw [sc6, sc7]
  dsimp only
  rw [show ints [0, 0, 0, 0, 0, 0, 0, 0, 0, 0, 0, 0] = #[.int .i64 0, .int .i64 0, .int .i64 0, .int .i64 0, .int .i64 0, .int .i64 0, .int .i64 0, .int .i64 0, .int .i64 0, .int .i64 0, .int .i64 0, .int .i64 0] from rfl]
  have hx5 := hw.alloc (.cells #[.int .i64 0, .int .i64 0, .int .i64 0, .int .i64 0, .int .i64 0, .int .i64 0, .int .i64 0, .int .i64 0, .int .i64 0, .int .i64 0, .int .i64 0, .int .i64 0] 25)
  have E5 := E5a.trans hx5
  replace X := X.ext hx5
  replace Y := Y.ext hx5
  replace I2 := I2.ext hx5
  replace I3 := I3.ext hx5
  clear hw hx5 E5a B5
  have x5 := X.cell
  go_wp2_with fail
  generalize hV : v5.alloc (.cells #[.int .i64 0, .int .i64 0, .int .i64 0, .int .i64 0, .int .i64 0, .int .i64 0, .int .i64 0, .int .i64 0, .int .i64 0, .int .i64 0, .int .i64 0, .int .i64 0] 25) = V at *
  have hvs : V.heap.size = v5.heap.size + 1 := by rw [← hV]; simp
  clear hV
  have N1 : Blk (V.alloc (.cells #[.int .i64 3] 3)) (v5.heap.size + 1) (ints [3]) 3 := Blk.new V _ _ _ hvs.symm
  have e1 := (Ext.refl V).alloc (.cells #[.int .i64 3] 3)
  refine (sameInts_eq _ _ a2 (some ⟨v5.heap.size + 1, 0, none⟩) cap2 1 [3] _ (I2.ext e1) (ints_at N1) (by decide)).mono ?_
  rintro e v6 ⟨rfl, hw⟩
  have o6 := e1.trans hw
  have E6 := E5.trans o6
  replace Y := Y.ext o6
  replace I3 := I3.ext o6
  clear e1 hw o6 N1 I2 x5 X E5
  go_wp2_with fail
  have N2 : Blk (v6.alloc (.cells #[.int .i64 1] 3)) v6.heap.size (ints [1]) 3 := Blk.new v6 _ _ _ rfl
  have e2 := (Ext.refl v6).alloc (.cells #[.int .i64 1] 3)
  refine (sameInts_eq _ _ a3 (some ⟨v6.heap.size, 0, none⟩) cap3 1 [1] _ (I3.ext e2) (ints_at N2) (by decide)).mono ?_
  rintro e v7 ⟨rfl, hw⟩
  have o7 := e2.trans hw
  have E7 := E6.trans o7
  replace Y := Y.ext o7
  have y7 := Y.cell
  go_wp2_with fail
  go_ret
  exact ⟨rfl, E7⟩
end Go.Proofs.Ytlpodahldpaniaa.B
