/- The contract of the reference's CommitOf. -/
import Derived.Test.YtibfgbmhmdggmaaGreatDoorWork7
namespace Go.Proofs.YtibfgbmhmdggmaaGreatDoor.B
set_option maxHeartbeats 32000000
set_option maxRecDepth 100000
open Go.ChangeShapes Go.WideShapes Go.ChangeAt Go.RowKit
theorem commitOf_w (p q r : Pg) (a : Option Addr) (cap : Nat) (l : List Rc) (safe : Int) (t : Int) (w : World) (h : LogIn w a l.length cap l) (hz : worldErr p q r l safe ≠ 0) :
  Calls Tryz.prog 30 #[wdVal p q r (.slice a l.length cap) safe, .int .i64 t] w fun e w' => e = .returned (.tuple #[wdVal noPg noPg noPg (.slice none 0 0) 0, .int .i64 (worldErr p q r l safe)]) ∧ Ext w w' := by
 have E0 := ((Ext.refl w).alloc (.cells (wdCells p q r (.slice a l.length cap) safe) 38)).alloc (.cells (wdCells noPg noPg noPg (.slice none 0 0) 0) 38)
 have B0 := (Blk.new w w.heap.size (wdCells p q r (.slice a l.length cap) safe) 38 rfl).alloc (.cells (wdCells noPg noPg noPg (.slice none 0 0) 0) 38)
 have N0 := Blk.new (w.alloc (.cells (wdCells p q r (.slice a l.length cap) safe) 38)) (w.heap.size + 1) (wdCells noPg noPg noPg (.slice none 0 0) 0) 38 (by simp)
 have H := worldError_any p q r a l.length cap l safe _ (h.recs.ext E0) h.le h.max
 have hb : (worldErr p q r l safe != 0) = true := by simpa using hz
 generalize worldErr p q r l safe = we at *
 clear hz
 have b0 := B0.cell
 go_enter Tryz.func30, Tryz.ntmps30
 go_wp2_with fail
 refine H.mono ?_
 rintro e w1 ⟨rfl, hE⟩
 have E := E0.trans hE
 have B := B0.ext hE
 have N := N0.ext hE
 clear H b0 B0 N0 E0 hE
 have n := N.cell
 have f := N.fr
 have E9 := put14_ext E (w.heap.size + 1) (by omega) (.int .i64 0) (.int .i64 0) (.int .i64 0) (.int .i64 0) (.int .i64 0) (.int .i64 0) (.int .i64 0) (.int .i64 0) (.int .i64 0) (.int .i64 0) (.int .i64 0) (.int .i64 0) (.slice none 0 0) (.int .i64 0)
 go_wp2_with fail
 refine bodyPost_ret (v := .tuple #[.agg (wdCells noPg noPg noPg (.slice none 0 0) 0), .int .i64 we]) (by simp [results, Tryz.results30, go_sem, n]) rfl ⟨rfl, ?_⟩
 exact E9
theorem commitOf_3 (p q r : Pg) (a : Option Addr) (cap : Nat) (l : List Rc) (safe : Int) (t : Int) (w : World) (h : LogIn w a l.length cap l) (hz : worldErr p q r l safe = 0) (h0 : wi t 1 9 = false) :
  Calls Tryz.prog 30 #[wdVal p q r (.slice a l.length cap) safe, .int .i64 t] w fun e w' => e = .returned (.tuple #[wdVal noPg noPg noPg (.slice none 0 0) 0, .int .i64 3]) ∧ Ext w w' := by
 have E0 := ((Ext.refl w).alloc (.cells (wdCells p q r (.slice a l.length cap) safe) 38)).alloc (.cells (wdCells noPg noPg noPg (.slice none 0 0) 0) 38)
 have B0 := (Blk.new w w.heap.size (wdCells p q r (.slice a l.length cap) safe) 38 rfl).alloc (.cells (wdCells noPg noPg noPg (.slice none 0 0) 0) 38)
 have N0 := Blk.new (w.alloc (.cells (wdCells p q r (.slice a l.length cap) safe) 38)) (w.heap.size + 1) (wdCells noPg noPg noPg (.slice none 0 0) 0) 38 (by simp)
 have H := worldError_any p q r a l.length cap l safe _ (h.recs.ext E0) h.le h.max
 rw [hz] at H
 clear hz
 have b0 := B0.cell
 go_enter Tryz.func30, Tryz.ntmps30
 go_wp2_with fail
 refine H.mono ?_
 rintro e w1 ⟨rfl, hE⟩
 have E := E0.trans hE
 have B := B0.ext hE
 have N := N0.ext hE
 clear H b0 B0 N0 E0 hE
 go_wp2_with fail
 refine (within_any t 1 9 _).mono ?_
 rintro e w2 ⟨rfl, rfl⟩
 rw [h0]
 have n := N.cell
 have f := N.fr
 have E9 := put14_ext E (w.heap.size + 1) (by omega) (.int .i64 0) (.int .i64 0) (.int .i64 0) (.int .i64 0) (.int .i64 0) (.int .i64 0) (.int .i64 0) (.int .i64 0) (.int .i64 0) (.int .i64 0) (.int .i64 0) (.int .i64 0) (.slice none 0 0) (.int .i64 0)
 go_wp2_with fail
 refine bodyPost_ret (v := .tuple #[.agg (wdCells noPg noPg noPg (.slice none 0 0) 0), .int .i64 3]) (by simp [results, Tryz.results30, go_sem, n]) rfl ⟨rfl, ?_⟩
 exact E9
theorem commitOf_7 (p q r : Pg) (a : Option Addr) (cap : Nat) (l : List Rc) (safe : Int) (t : Int) (w : World) (h : LogIn w a l.length cap l) (hz : worldErr p q r l safe = 0) (h0 : wi t 1 9 = true) (hl60 : l.length ≤ 60) (hb0 : (stateR l t == 0) = true) :
  Calls Tryz.prog 30 #[wdVal p q r (.slice a l.length cap) safe, .int .i64 t] w fun e w' => e = .returned (.tuple #[wdVal noPg noPg noPg (.slice none 0 0) 0, .int .i64 7]) ∧ Ext w w' := by
 have E0 := ((Ext.refl w).alloc (.cells (wdCells p q r (.slice a l.length cap) safe) 38)).alloc (.cells (wdCells noPg noPg noPg (.slice none 0 0) 0) 38)
 have B0 := (Blk.new w w.heap.size (wdCells p q r (.slice a l.length cap) safe) 38 rfl).alloc (.cells (wdCells noPg noPg noPg (.slice none 0 0) 0) 38)
 have N0 := Blk.new (w.alloc (.cells (wdCells p q r (.slice a l.length cap) safe) 38)) (w.heap.size + 1) (wdCells noPg noPg noPg (.slice none 0 0) 0) 38 (by simp)
 have H := worldError_any p q r a l.length cap l safe _ (h.recs.ext E0) h.le h.max
 rw [hz] at H
 clear hz
 have b0 := B0.cell
 go_enter Tryz.func30, Tryz.ntmps30
 go_wp2_with fail
 refine H.mono ?_
 rintro e w1 ⟨rfl, hE⟩
 have E := E0.trans hE
 have B := B0.ext hE
 have N := N0.ext hE
 clear H b0 B0 N0 E0 hE
 go_wp2_with fail
 refine (within_any t 1 9 _).mono ?_
 rintro e w2 ⟨rfl, rfl⟩
 rw [h0]
 have b1 := B.cell
 go_wp2_with fail
 refine (state_any a l.length cap l t _ (h.recs.ext E) (by omega)).mono ?_
 rintro e w2 ⟨rfl, rfl⟩
 have n := N.cell
 have f := N.fr
 have E9 := put14_ext E (w.heap.size + 1) (by omega) (.int .i64 0) (.int .i64 0) (.int .i64 0) (.int .i64 0) (.int .i64 0) (.int .i64 0) (.int .i64 0) (.int .i64 0) (.int .i64 0) (.int .i64 0) (.int .i64 0) (.int .i64 0) (.slice none 0 0) (.int .i64 0)
 go_wp2_with fail
 refine bodyPost_ret (v := .tuple #[.agg (wdCells noPg noPg noPg (.slice none 0 0) 0), .int .i64 7]) (by simp [results, Tryz.results30, go_sem, n]) rfl ⟨rfl, ?_⟩
 exact E9
theorem commitOf_6 (p q r : Pg) (a : Option Addr) (cap : Nat) (l : List Rc) (safe : Int) (t : Int) (w : World) (h : LogIn w a l.length cap l) (hz : worldErr p q r l safe = 0) (h0 : wi t 1 9 = true) (hl60 : l.length ≤ 60) (hb0 : (stateR l t == 0) = false) (hst : 1 < stateR l t) :
  Calls Tryz.prog 30 #[wdVal p q r (.slice a l.length cap) safe, .int .i64 t] w fun e w' => e = .returned (.tuple #[wdVal noPg noPg noPg (.slice none 0 0) 0, .int .i64 6]) ∧ Ext w w' := by
 have E0 := ((Ext.refl w).alloc (.cells (wdCells p q r (.slice a l.length cap) safe) 38)).alloc (.cells (wdCells noPg noPg noPg (.slice none 0 0) 0) 38)
 have B0 := (Blk.new w w.heap.size (wdCells p q r (.slice a l.length cap) safe) 38 rfl).alloc (.cells (wdCells noPg noPg noPg (.slice none 0 0) 0) 38)
 have N0 := Blk.new (w.alloc (.cells (wdCells p q r (.slice a l.length cap) safe) 38)) (w.heap.size + 1) (wdCells noPg noPg noPg (.slice none 0 0) 0) 38 (by simp)
 have H := worldError_any p q r a l.length cap l safe _ (h.recs.ext E0) h.le h.max
 rw [hz] at H
 clear hz
 have b0 := B0.cell
 go_enter Tryz.func30, Tryz.ntmps30
 go_wp2_with fail
 refine H.mono ?_
 rintro e w1 ⟨rfl, hE⟩
 have E := E0.trans hE
 have B := B0.ext hE
 have N := N0.ext hE
 clear H b0 B0 N0 E0 hE
 go_wp2_with fail
 refine (within_any t 1 9 _).mono ?_
 rintro e w2 ⟨rfl, rfl⟩
 rw [h0]
 have b1 := B.cell
 go_wp2_with fail
 refine (state_any a l.length cap l t _ (h.recs.ext E) (by omega)).mono ?_
 rintro e w2 ⟨rfl, rfl⟩
 have n := N.cell
 have f := N.fr
 have E9 := put14_ext E (w.heap.size + 1) (by omega) (.int .i64 0) (.int .i64 0) (.int .i64 0) (.int .i64 0) (.int .i64 0) (.int .i64 0) (.int .i64 0) (.int .i64 0) (.int .i64 0) (.int .i64 0) (.int .i64 0) (.int .i64 0) (.slice none 0 0) (.int .i64 0)
 go_wp2_with fail
 refine bodyPost_ret (v := .tuple #[.agg (wdCells noPg noPg noPg (.slice none 0 0) 0), .int .i64 6]) (by simp [results, Tryz.results30, go_sem, n]) rfl ⟨rfl, ?_⟩
 exact E9
theorem commitOf_2a (p q r : Pg) (a : Option Addr) (cap : Nat) (l : List Rc) (safe : Int) (t : Int) (w : World) (h : LogIn w a l.length cap l) (hz : worldErr p q r l safe = 0) (h0 : wi t 1 9 = true) (hl60 : l.length ≤ 60) (hb0 : (stateR l t == 0) = false) (hst : ¬ 1 < stateR l t) (hfull : l.length = 60) :
  Calls Tryz.prog 30 #[wdVal p q r (.slice a l.length cap) safe, .int .i64 t] w fun e w' => e = .returned (.tuple #[wdVal noPg noPg noPg (.slice none 0 0) 0, .int .i64 2]) ∧ Ext w w' := by
 have E0 := ((Ext.refl w).alloc (.cells (wdCells p q r (.slice a l.length cap) safe) 38)).alloc (.cells (wdCells noPg noPg noPg (.slice none 0 0) 0) 38)
 have B0 := (Blk.new w w.heap.size (wdCells p q r (.slice a l.length cap) safe) 38 rfl).alloc (.cells (wdCells noPg noPg noPg (.slice none 0 0) 0) 38)
 have N0 := Blk.new (w.alloc (.cells (wdCells p q r (.slice a l.length cap) safe) 38)) (w.heap.size + 1) (wdCells noPg noPg noPg (.slice none 0 0) 0) 38 (by simp)
 have H := worldError_any p q r a l.length cap l safe _ (h.recs.ext E0) h.le h.max
 have HFull := (show Hid (l.length = 60) from hfull)
 clear hfull
 rw [hz] at H
 clear hz
 have b0 := B0.cell
 go_enter Tryz.func30, Tryz.ntmps30
 go_wp2_with fail
 refine H.mono ?_
 rintro e w1 ⟨rfl, hE⟩
 have E := E0.trans hE
 have B := B0.ext hE
 have N := N0.ext hE
 clear H b0 B0 N0 E0 hE
 go_wp2_with fail
 refine (within_any t 1 9 _).mono ?_
 rintro e w2 ⟨rfl, rfl⟩
 rw [h0]
 have b1 := B.cell
 go_wp2_with fail
 refine (state_any a l.length cap l t _ (h.recs.ext E) (by omega)).mono ?_
 rintro e w2 ⟨rfl, rfl⟩
 go_wp2_with fail
 refine (ownWorld_any p q r a l.length cap l safe _ (h.ext E) hl60).mono ?_
 rintro e w4 ⟨a', cap', rfl, hw, hown⟩
 have E4 := (E.trans hw).alloc (.cells (wdCells p q r (.slice a' l.length cap') safe) 38)
 have N4 := (N.ext hw).alloc (.cells (wdCells p q r (.slice a' l.length cap') safe) 38)
 have D4 := Blk.new w4 w4.heap.size (wdCells p q r (.slice a' l.length cap') safe) 38 rfl
 have own4 := own_ext hown ((Ext.refl w4).alloc (.cells (wdCells p q r (.slice a' l.length cap') safe) 38))
 have hd4 : w2.heap.size ≤ w4.heap.size := hw.size
 have hn4 : w.heap.size + 1 < w2.heap.size := N.lt
 have hEs := E.size
 clear b1 hown hw
 go_wp2_with fail
 refine (refPut_full w4.heap.size p q r a' cap' l safe ⟨2, t, 0, 0, 0, 0, 0, 0⟩ _ D4 HFull.out).mono ?_
 rintro e w6 ⟨rfl, hw⟩
 replace E4 := E4.trans hw
 replace N4 := N4.ext hw
 have n := N4.cell
 have f := N4.fr
 have E9 := put14_ext E4 (w.heap.size + 1) (by omega) (.int .i64 0) (.int .i64 0) (.int .i64 0) (.int .i64 0) (.int .i64 0) (.int .i64 0) (.int .i64 0) (.int .i64 0) (.int .i64 0) (.int .i64 0) (.int .i64 0) (.int .i64 0) (.slice none 0 0) (.int .i64 0)
 go_wp2_with fail
 refine bodyPost_ret (v := .tuple #[.agg (wdCells noPg noPg noPg (.slice none 0 0) 0), .int .i64 2]) (by simp [results, Tryz.results30, go_sem, n]) rfl ⟨rfl, ?_⟩
 exact E9
theorem commitOf_2b (p q r : Pg) (a : Option Addr) (cap : Nat) (l : List Rc) (safe : Int) (t : Int) (w : World) (h : LogIn w a l.length cap l) (hz : worldErr p q r l safe = 0) (h0 : wi t 1 9 = true) (hl60 : l.length ≤ 60) (hb0 : (stateR l t == 0) = false) (hst : ¬ 1 < stateR l t) (hne60 : l.length < 60) (hfull : l.length + 1 = 60) :
  Calls Tryz.prog 30 #[wdVal p q r (.slice a l.length cap) safe, .int .i64 t] w fun e w' => e = .returned (.tuple #[wdVal noPg noPg noPg (.slice none 0 0) 0, .int .i64 2]) ∧ Ext w w' := by
 have E0 := ((Ext.refl w).alloc (.cells (wdCells p q r (.slice a l.length cap) safe) 38)).alloc (.cells (wdCells noPg noPg noPg (.slice none 0 0) 0) 38)
 have B0 := (Blk.new w w.heap.size (wdCells p q r (.slice a l.length cap) safe) 38 rfl).alloc (.cells (wdCells noPg noPg noPg (.slice none 0 0) 0) 38)
 have N0 := Blk.new (w.alloc (.cells (wdCells p q r (.slice a l.length cap) safe) 38)) (w.heap.size + 1) (wdCells noPg noPg noPg (.slice none 0 0) 0) 38 (by simp)
 have H := worldError_any p q r a l.length cap l safe _ (h.recs.ext E0) h.le h.max
 have HFull := (show Hid (l.length + 1 = 60) from hfull)
 clear hfull
 have HR1 : Hid (l ++ [linkR l ⟨2, t, 0, 0, 0, 0, 0, 0⟩] = l ++ [commitRec l t]) := rfl
 have HL1 : Hid ((l ++ [commitRec l t]).length = l.length + 1) := by simp [Hid]
 rw [hz] at H
 clear hz
 have b0 := B0.cell
 go_enter Tryz.func30, Tryz.ntmps30
 go_wp2_with fail
 refine H.mono ?_
 rintro e w1 ⟨rfl, hE⟩
 have E := E0.trans hE
 have B := B0.ext hE
 have N := N0.ext hE
 clear H b0 B0 N0 E0 hE
 go_wp2_with fail
 refine (within_any t 1 9 _).mono ?_
 rintro e w2 ⟨rfl, rfl⟩
 rw [h0]
 have b1 := B.cell
 go_wp2_with fail
 refine (state_any a l.length cap l t _ (h.recs.ext E) (by omega)).mono ?_
 rintro e w2 ⟨rfl, rfl⟩
 go_wp2_with fail
 refine (ownWorld_any p q r a l.length cap l safe _ (h.ext E) hl60).mono ?_
 rintro e w4 ⟨a', cap', rfl, hw, hown⟩
 have E4 := (E.trans hw).alloc (.cells (wdCells p q r (.slice a' l.length cap') safe) 38)
 have N4 := (N.ext hw).alloc (.cells (wdCells p q r (.slice a' l.length cap') safe) 38)
 have D4 := Blk.new w4 w4.heap.size (wdCells p q r (.slice a' l.length cap') safe) 38 rfl
 have own4 := own_ext hown ((Ext.refl w4).alloc (.cells (wdCells p q r (.slice a' l.length cap') safe) 38))
 have hd4 : w2.heap.size ≤ w4.heap.size := hw.size
 have hn4 : w.heap.size + 1 < w2.heap.size := N.lt
 have hEs := E.size
 clear b1 hown hw
 go_wp2_with fail
 refine (refPut_any w2.heap.size w4.heap.size p q r a' cap' l safe ⟨2, t, 0, 0, 0, 0, 0, 0⟩ _ D4 own4 (by omega) hd4).mono ?_
 rintro e w6 ⟨rfl, hbel, a6, cap6, D6, own6⟩
 have N6 : Blk w6 (w.heap.size + 1) (wdCells noPg noPg noPg (.slice none 0 0) 0) 38 := by
  have := hbel.block (w.heap.size + 1) hn4
  unfold Blk; rw [this]; exact N4
 have E6 : Ext w w6 := Below.trans E4 (Below.mono hbel hEs)
 rw [HR1.out, HL1.out] at own6
 have D7 := D6.set 13 (.int .i64 ((l.length : Int) + 1))
 have D7' : Blk (w6.setCell ⟨w4.heap.size, 13, none⟩ (.int .i64 ((l.length : Int) + 1))) w4.heap.size (wdCells p q r (.slice a6 (l ++ [commitRec l t]).length cap6) ((l.length : Int) + 1)) 38 := by rw [HL1.out]; exact D7
 have N7 := N6.other ⟨w4.heap.size, 13, none⟩ (.int .i64 ((l.length : Int) + 1)) (by dsimp only; omega)
 have E7 := E6.setCell (p := ⟨w4.heap.size, 13, none⟩) (by dsimp only; omega) (.int .i64 ((l.length : Int) + 1))
 have G7 : Gr (some w4.heap.size) w6 (w6.setCell ⟨w4.heap.size, 13, none⟩ (.int .i64 ((l.length : Int) + 1))) := (Gr.refl (some w4.heap.size) w6).set (p := ⟨w4.heap.size, 13, none⟩) (Or.inr rfl) _
 have own7 := own_gr own6 G7 (fun k hk e => by injection e with e; exact own_notblk own6 D6 (by decide) k hk e)
 have own7' : (w6.setCell ⟨w4.heap.size, 13, none⟩ (.int .i64 ((l.length : Int) + 1))).ownsRow w2.heap.size 81 8 (.slice a6 (l ++ [commitRec l t]).length cap6) (l ++ [commitRec l t]).length (flat (l ++ [commitRec l t])) := by rw [HL1.out]; exact own7
 have HD7 := (show Hid _ from D7')
 have HO7 := (show Hid _ from own7')
 have c6 := D6.cell
 have f6 := D6.fr
 clear own4 D4 N4 E4 hbel own6 own7 G7 D7 D7' own7'
 go_wp2_with fail
 clear c6 f6
 have HC := refPut_full w4.heap.size p q r a6 cap6 (l ++ [commitRec l t]) ((l.length : Int) + 1) ⟨4, t, 0, 0, 0, 0, 0, 0⟩ _ HD7.out (by rw [HL1.out]; exact HFull.out)
 refine HC.mono ?_
 rintro e w8 ⟨rfl, hw⟩
 replace E7 := E7.trans hw
 replace N7 := N7.ext hw
 clear HC HD7 HO7
 have n := N7.cell
 have f := N7.fr
 have E9 := put14_ext E7 (w.heap.size + 1) (by omega) (.int .i64 0) (.int .i64 0) (.int .i64 0) (.int .i64 0) (.int .i64 0) (.int .i64 0) (.int .i64 0) (.int .i64 0) (.int .i64 0) (.int .i64 0) (.int .i64 0) (.int .i64 0) (.slice none 0 0) (.int .i64 0)
 go_wp2_with fail
 refine bodyPost_ret (v := .tuple #[.agg (wdCells noPg noPg noPg (.slice none 0 0) 0), .int .i64 2]) (by simp [results, Tryz.results30, go_sem, n]) rfl ⟨rfl, ?_⟩
 exact E9
theorem commitOf_0 (p q r : Pg) (a : Option Addr) (cap : Nat) (l : List Rc) (safe : Int) (t : Int) (w : World) (h : LogIn w a l.length cap l) (hz : worldErr p q r l safe = 0) (h0 : wi t 1 9 = true) (hl60 : l.length ≤ 60) (hb0 : (stateR l t == 0) = false) (hst : ¬ 1 < stateR l t) (hroom : l.length < 59) :
  Calls Tryz.prog 30 #[wdVal p q r (.slice a l.length cap) safe, .int .i64 t] w fun e w' => ∃ a' cap', e = .returned (.tuple #[wdVal p q r (.slice a' ((l ++ [commitRec l t]) ++ [endRec l t]).length cap') ((l.length : Int) + 1), .int .i64 0]) ∧ Ext w w' ∧ LogIn w' a' ((l ++ [commitRec l t]) ++ [endRec l t]).length cap' ((l ++ [commitRec l t]) ++ [endRec l t]) ∧ ∀ ad, a' = some ad → w.heap.size ≤ ad.block := by
 have E0 := ((Ext.refl w).alloc (.cells (wdCells p q r (.slice a l.length cap) safe) 38)).alloc (.cells (wdCells noPg noPg noPg (.slice none 0 0) 0) 38)
 have B0 := (Blk.new w w.heap.size (wdCells p q r (.slice a l.length cap) safe) 38 rfl).alloc (.cells (wdCells noPg noPg noPg (.slice none 0 0) 0) 38)
 have N0 := Blk.new (w.alloc (.cells (wdCells p q r (.slice a l.length cap) safe) 38)) (w.heap.size + 1) (wdCells noPg noPg noPg (.slice none 0 0) 0) 38 (by simp)
 have H := worldError_any p q r a l.length cap l safe _ (h.recs.ext E0) h.le h.max
 have HR2 : Hid ((l ++ [commitRec l t]) ++ [linkR (l ++ [commitRec l t]) ⟨4, t, 0, 0, 0, 0, 0, 0⟩] = (l ++ [commitRec l t]) ++ [endRec l t]) := by
  unfold Hid linkR endRec
  dsimp only
  rw [show lastR (l ++ [commitRec l t]) t = l.length + 1 from by rw [lastR_snoc]; simp [commitRec]]
 have HL : Hid (((l ++ [commitRec l t]) ++ [endRec l t]).length = l.length + 1 + 1) := by simp [Hid]
 generalize (l ++ [commitRec l t]) ++ [endRec l t] = l' at *
 have hne60 : l.length < 60 := by omega
 have HR1 : Hid (l ++ [linkR l ⟨2, t, 0, 0, 0, 0, 0, 0⟩] = l ++ [commitRec l t]) := rfl
 have HL1 : Hid ((l ++ [commitRec l t]).length = l.length + 1) := by simp [Hid]
 rw [hz] at H
 clear hz
 have b0 := B0.cell
 go_enter Tryz.func30, Tryz.ntmps30
 go_wp2_with fail
 refine H.mono ?_
 rintro e w1 ⟨rfl, hE⟩
 have E := E0.trans hE
 have B := B0.ext hE
 have N := N0.ext hE
 clear H b0 B0 N0 E0 hE
 go_wp2_with fail
 refine (within_any t 1 9 _).mono ?_
 rintro e w2 ⟨rfl, rfl⟩
 rw [h0]
 have b1 := B.cell
 go_wp2_with fail
 refine (state_any a l.length cap l t _ (h.recs.ext E) (by omega)).mono ?_
 rintro e w2 ⟨rfl, rfl⟩
 go_wp2_with fail
 refine (ownWorld_any p q r a l.length cap l safe _ (h.ext E) hl60).mono ?_
 rintro e w4 ⟨a', cap', rfl, hw, hown⟩
 have E4 := (E.trans hw).alloc (.cells (wdCells p q r (.slice a' l.length cap') safe) 38)
 have N4 := (N.ext hw).alloc (.cells (wdCells p q r (.slice a' l.length cap') safe) 38)
 have D4 := Blk.new w4 w4.heap.size (wdCells p q r (.slice a' l.length cap') safe) 38 rfl
 have own4 := own_ext hown ((Ext.refl w4).alloc (.cells (wdCells p q r (.slice a' l.length cap') safe) 38))
 have hd4 : w2.heap.size ≤ w4.heap.size := hw.size
 have hn4 : w.heap.size + 1 < w2.heap.size := N.lt
 have hEs := E.size
 clear b1 hown hw
 go_wp2_with fail
 refine (refPut_any w2.heap.size w4.heap.size p q r a' cap' l safe ⟨2, t, 0, 0, 0, 0, 0, 0⟩ _ D4 own4 (by omega) hd4).mono ?_
 rintro e w6 ⟨rfl, hbel, a6, cap6, D6, own6⟩
 have N6 : Blk w6 (w.heap.size + 1) (wdCells noPg noPg noPg (.slice none 0 0) 0) 38 := by
  have := hbel.block (w.heap.size + 1) hn4
  unfold Blk; rw [this]; exact N4
 have E6 : Ext w w6 := Below.trans E4 (Below.mono hbel hEs)
 rw [HR1.out, HL1.out] at own6
 have D7 := D6.set 13 (.int .i64 ((l.length : Int) + 1))
 have D7' : Blk (w6.setCell ⟨w4.heap.size, 13, none⟩ (.int .i64 ((l.length : Int) + 1))) w4.heap.size (wdCells p q r (.slice a6 (l ++ [commitRec l t]).length cap6) ((l.length : Int) + 1)) 38 := by rw [HL1.out]; exact D7
 have N7 := N6.other ⟨w4.heap.size, 13, none⟩ (.int .i64 ((l.length : Int) + 1)) (by dsimp only; omega)
 have E7 := E6.setCell (p := ⟨w4.heap.size, 13, none⟩) (by dsimp only; omega) (.int .i64 ((l.length : Int) + 1))
 have G7 : Gr (some w4.heap.size) w6 (w6.setCell ⟨w4.heap.size, 13, none⟩ (.int .i64 ((l.length : Int) + 1))) := (Gr.refl (some w4.heap.size) w6).set (p := ⟨w4.heap.size, 13, none⟩) (Or.inr rfl) _
 have own7 := own_gr own6 G7 (fun k hk e => by injection e with e; exact own_notblk own6 D6 (by decide) k hk e)
 have own7' : (w6.setCell ⟨w4.heap.size, 13, none⟩ (.int .i64 ((l.length : Int) + 1))).ownsRow w2.heap.size 81 8 (.slice a6 (l ++ [commitRec l t]).length cap6) (l ++ [commitRec l t]).length (flat (l ++ [commitRec l t])) := by rw [HL1.out]; exact own7
 have HD7 := (show Hid _ from D7')
 have HO7 := (show Hid _ from own7')
 have c6 := D6.cell
 have f6 := D6.fr
 clear own4 D4 N4 E4 hbel own6 own7 G7 D7 D7' own7'
 go_wp2_with fail
 clear c6 f6
 have HC := refPut_any w2.heap.size w4.heap.size p q r a6 cap6 (l ++ [commitRec l t]) ((l.length : Int) + 1) ⟨4, t, 0, 0, 0, 0, 0, 0⟩ _ HD7.out HO7.out (by rw [HL1.out]; omega) hd4
 refine HC.mono ?_
 rintro e w8 ⟨rfl, hbel, a8, cap8, D8, own8⟩
 have N8 : Blk w8 (w.heap.size + 1) (wdCells noPg noPg noPg (.slice none 0 0) 0) 38 := by
  have := hbel.block (w.heap.size + 1) hn4
  unfold Blk; rw [this]; exact N7
 have E8 : Ext w w8 := Below.trans E7 (Below.mono hbel hEs)
 rw [HR2.out] at own8
 rw [HL1.out] at D8 own8
 have E9 := put14_ext E8 (w.heap.size + 1) (by omega) (.int .i64 p.c0) (.int .i64 p.c1) (.int .i64 p.c2) (.int .i64 p.last) (.int .i64 q.c0) (.int .i64 q.c1) (.int .i64 q.c2) (.int .i64 q.last) (.int .i64 r.c0) (.int .i64 r.c1) (.int .i64 r.c2) (.int .i64 r.last) (.slice a8 (l.length + 1 + 1) cap8) (.int .i64 ((l.length : Int) + 1))
 have G9 := put14_gr w8 (w.heap.size + 1) (.int .i64 p.c0) (.int .i64 p.c1) (.int .i64 p.c2) (.int .i64 p.last) (.int .i64 q.c0) (.int .i64 q.c1) (.int .i64 q.c2) (.int .i64 q.last) (.int .i64 r.c0) (.int .i64 r.c1) (.int .i64 r.c2) (.int .i64 r.last) (.slice a8 (l.length + 1 + 1) cap8) (.int .i64 ((l.length : Int) + 1))
 have own9 := own_gr own8 G9 (fun k hk e => by injection e with e; have := own_from own8 k hk; omega)
 have HIn := (show Hid _ from own_in2 own9 (by have := HL.out; omega))
 have HFrom : Hid (∀ ad, a8 = some ad → w.heap.size ≤ ad.block) := fun ad e => by have := own_from own8 ad.block (by rw [e]; rfl); omega
 have dd := D8.cell
 have nn := N8.cell
 have ff := N8.fr
 have hne : w4.heap.size ≠ w.heap.size + 1 := by omega
 clear hbel own8 G9 own9 N7 E7 HC HD7 HO7 HR2
 go_wp2_with fail
 refine bodyPost_ret (v := .tuple #[.agg (wdCells p q r (.slice a8 (l.length + 1 + 1) cap8) ((l.length : Int) + 1)), .int .i64 0]) (by simp [results, Tryz.results30, go_sem, nn]) rfl ⟨a8, cap8, by rw [HL.out], ?_, ?_, HFrom.out⟩
 ·exact E9
 ·exact HIn.out
theorem commitOf_any (p q r : Pg) (a : Option Addr) (len cap : Nat) (l : List Rc) (safe t : Int) (w : World) (h : LogIn w a len cap l) :
  Calls Tryz.prog 30 #[wdVal p q r (.slice a len cap) safe, .int .i64 t] w fun e w' => Ext w w' ∧ WorkAns w.heap.size w' e p q r (errOf (worldErr p q r l safe) (commitErr l t)) ((l ++ [commitRec l t]) ++ [endRec l t]) ((l.length + 1 : Nat) : Int) := by
 obtain rfl := h.recs.len
 have nope : ∀ (k x : Int), x = k → k ≠ 0 → Calls Tryz.prog 30 #[wdVal p q r (.slice a l.length cap) safe, .int .i64 t] w (fun e w' => e = .returned (.tuple #[wdVal noPg noPg noPg (.slice none 0 0) 0, .int .i64 k]) ∧ Ext w w') →
   Calls Tryz.prog 30 #[wdVal p q r (.slice a l.length cap) safe, .int .i64 t] w fun e w' => Ext w w' ∧ WorkAns w.heap.size w' e p q r x ((l ++ [commitRec l t]) ++ [endRec l t]) ((l.length + 1 : Nat) : Int) := fun k x hx hk H => by
  subst hx
  exact H.mono fun e w' ⟨h1, h2⟩ => ⟨h2, Or.inr ⟨hk, h1⟩⟩
 by_cases hz : worldErr p q r l safe = 0
 ·obtain ⟨hl60, _⟩ := logErr_zero (worldErr_zero hz).1
  rw [errOf_0 hz]
  cases h0 : wi t 1 9
  ·exact nope 3 _ (commitErr_3 (by rw [out_one, h0]; rfl)) (by decide) (commitOf_3 p q r a cap l safe t w h hz h0)
  have hn : out 1 9 [t] = false := by rw [out_one, h0]; rfl
  by_cases hs0 : stateR l t = 0
  ·exact nope 7 _ (commitErr_7 hn hs0) (by decide) (commitOf_7 p q r a cap l safe t w h hz h0 hl60 (by simpa using hs0))
  have hb0 : (stateR l t == 0) = false := by simpa using hs0
  by_cases hst : 1 < stateR l t
  ·exact nope 6 _ (commitErr_6 hn hs0 hst) (by decide) (commitOf_6 p q r a cap l safe t w h hz h0 hl60 hb0 hst)
  by_cases hfull : l.length = 60
  ·exact nope 2 _ (commitErr_2 hn hs0 hst (by omega)) (by decide) (commitOf_2a p q r a cap l safe t w h hz h0 hl60 hb0 hst hfull)
  by_cases hfull2 : l.length + 1 = 60
  ·exact nope 2 _ (commitErr_2 hn hs0 hst (by omega)) (by decide) (commitOf_2b p q r a cap l safe t w h hz h0 hl60 hb0 hst (by omega) hfull2)
  rw [commitErr_0 hn hs0 hst (by omega)]
  exact (commitOf_0 p q r a cap l safe t w h hz h0 hl60 hb0 hst (by omega)).mono fun e w' ⟨a', cap', h1, h2, h3, h4⟩ => ⟨h2, Or.inl ⟨rfl, a', cap', h1, h3, h4⟩⟩
 ·exact nope _ _ (errOf_1 hz) hz (commitOf_w p q r a cap l safe t w h hz)
end Go.Proofs.YtibfgbmhmdggmaaGreatDoor.B
