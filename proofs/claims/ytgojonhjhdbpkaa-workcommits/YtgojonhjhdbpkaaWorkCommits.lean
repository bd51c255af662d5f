/- The contract of the reference's CommitOf. WorkCommits holds: work.Commit answers what the reference answers, errors too, whatever it is handed. -/
import Derived.Test.YtgojonhjhdbpkaaWork7
import Derived.Test.YtgojonhjhdbpkaaWork9
namespace Go.Proofs.Ytgojonhjhdbpkaa.B
set_option maxRecDepth 100000
open Go.ChangeShapes Go.WideShapes Go.ChangeAt Go.RowKit

set_option maxHeartbeats 4000000 in
theorem commitOf_w (p q r : Pg) (a : Option Addr) (cap : Nat) (l : List Rc) (safe : Int) (t : Int) (w : World) (h : LogIn w a l.length cap l) (hz : worldErr p q r l safe ≠ 0) :
    Calls Try.prog 42 #[wdVal p q r (.slice a l.length cap) safe, .int .i64 t] w fun e w' => e = .returned (.tuple #[wdVal noPg noPg noPg (.slice none 0 0) 0, .int .i64 (worldErr p q r l safe)]) ∧ Ext w w' := by
  have E0 := ((Ext.refl w).alloc (.cells (wdCells p q r (.slice a l.length cap) safe) 51)).alloc (.cells (wdCells noPg noPg noPg (.slice none 0 0) 0) 51)
  have B0 := (Blk.new w w.heap.size (wdCells p q r (.slice a l.length cap) safe) 51 rfl).alloc (.cells (wdCells noPg noPg noPg (.slice none 0 0) 0) 51)
  have N0 := Blk.new (w.alloc (.cells (wdCells p q r (.slice a l.length cap) safe) 51)) (w.heap.size + 1) (wdCells noPg noPg noPg (.slice none 0 0) 0) 51 (by simp)
  have H := worldError_any p q r a l.length cap l safe _ (h.recs.ext E0) h.le h.max
  have hb : (worldErr p q r l safe != 0) = true := by simpa using hz
  generalize worldErr p q r l safe = we at *
  clear hz
  have b0 := B0.cell
  go_enter Try.func42, Try.ntmps42
  go_wp2_with fail
  refine H.mono ?_
  rintro e w1 ⟨rfl, hE⟩
  have E := E0.trans hE
  have B := B0.ext hE
  have N := N0.ext hE
  clear H b0 B0 N0 E0 hE
  have n := N.cell
  have f := N.fr
  have E9 := put14_ext E (w.heap.size + 1) (by omega) (.int .i64 0) (.int .i64 0) (.int .i64 0) (.int .i64 0) (.int .i64 0) (.int .i64 0) (.int .i64 0) (.int .i64 0) (.int .i64 0) (.int .i64 0) (.int .i64 0) (.int .i64 0) (.slice none 0 0) (.int .i64 0)
  go_wp2_with fail
  refine bodyPost_ret (v := .tuple #[.agg (wdCells noPg noPg noPg (.slice none 0 0) 0), .int .i64 we]) (by simp [results, Try.results42, go_sem, n]) rfl ⟨rfl, ?_⟩
  exact E9
set_option maxHeartbeats 4000000 in
theorem commitOf_3 (p q r : Pg) (a : Option Addr) (cap : Nat) (l : List Rc) (safe : Int) (t : Int) (w : World) (h : LogIn w a l.length cap l) (hz : worldErr p q r l safe = 0) (h0 : wi t 1 9 = false) :
    Calls Try.prog 42 #[wdVal p q r (.slice a l.length cap) safe, .int .i64 t] w fun e w' => e = .returned (.tuple #[wdVal noPg noPg noPg (.slice none 0 0) 0, .int .i64 3]) ∧ Ext w w' := by
  have E0 := ((Ext.refl w).alloc (.cells (wdCells p q r (.slice a l.length cap) safe) 51)).alloc (.cells (wdCells noPg noPg noPg (.slice none 0 0) 0) 51)
  have B0 := (Blk.new w w.heap.size (wdCells p q r (.slice a l.length cap) safe) 51 rfl).alloc (.cells (wdCells noPg noPg noPg (.slice none 0 0) 0) 51)
  have N0 := Blk.new (w.alloc (.cells (wdCells p q r (.slice a l.length cap) safe) 51)) (w.heap.size + 1) (wdCells noPg noPg noPg (.slice none 0 0) 0) 51 (by simp)
  have H := worldError_any p q r a l.length cap l safe _ (h.recs.ext E0) h.le h.max
  rw [hz] at H
  clear hz
  have b0 := B0.cell
  go_enter Try.func42, Try.ntmps42
  go_wp2_with fail
  refine H.mono ?_
  rintro e w1 ⟨rfl, hE⟩
  have E := E0.trans hE
  have B := B0.ext hE
  have N := N0.ext hE
  clear H b0 B0 N0 E0 hE
  go_wp2_with fail
  refine (within_any t 1 9 _).mono ?_
  rintro e w2 ⟨rfl, rfl⟩
  rw [h0]
  have n := N.cell
  have f := N.fr
  have E9 := put14_ext E (w.heap.size + 1) (by omega) (.int .i64 0) (.int .i64 0) (.int .i64 0) (.int .i64 0) (.int .i64 0) (.int .i64 0) (.int .i64 0) (.int .i64 0) (.int .i64 0) (.int .i64 0) (.int .i64 0) (.int .i64 0) (.slice none 0 0) (.int .i64 0)
  go_wp2_with fail
  refine bodyPost_ret (v := .tuple #[.agg (wdCells noPg noPg noPg (.slice none 0 0) 0), .int .i64 3]) (by simp [results, Try.results42, go_sem, n]) rfl ⟨rfl, ?_⟩
  exact E9
set_option maxHeartbeats 4000000 in
theorem commitOf_7 (p q r : Pg) (a : Option Addr) (cap : Nat) (l : List Rc) (safe : Int) (t : Int) (w : World) (h : LogIn w a l.length cap l) (hz : worldErr p q r l safe = 0) (h0 : wi t 1 9 = true) (hl60 : l.length ≤ 60) (hb0 : (stateR l t == 0) = true) :
    Calls Try.prog 42 #[wdVal p q r (.slice a l.length cap) safe, .int .i64 t] w fun e w' => e = .returned (.tuple #[wdVal noPg noPg noPg (.slice none 0 0) 0, .int .i64 7]) ∧ Ext w w' := by
  have E0 := ((Ext.refl w).alloc (.cells (wdCells p q r (.slice a l.length cap) safe) 51)).alloc (.cells (wdCells noPg noPg noPg (.slice none 0 0) 0) 51)
  have B0 := (Blk.new w w.heap.size (wdCells p q r (.slice a l.length cap) safe) 51 rfl).alloc (.cells (wdCells noPg noPg noPg (.slice none 0 0) 0) 51)
  have N0 := Blk.new (w.alloc (.cells (wdCells p q r (.slice a l.length cap) safe) 51)) (w.heap.size + 1) (wdCells noPg noPg noPg (.slice none 0 0) 0) 51 (by simp)
  have H := worldError_any p q r a l.length cap l safe _ (h.recs.ext E0) h.le h.max
  rw [hz] at H
  clear hz
  have b0 := B0.cell
  go_enter Try.func42, Try.ntmps42
  go_wp2_with fail
  refine H.mono ?_
  rintro e w1 ⟨rfl, hE⟩
  have E := E0.trans hE
  have B := B0.ext hE
  have N := N0.ext hE
  clear H b0 B0 N0 E0 hE
  go_wp2_with fail
  refine (within_any t 1 9 _).mono ?_
  rintro e w2 ⟨rfl, rfl⟩
  rw [h0]
  have b1 := B.cell
  go_wp2_with fail
  refine (state_any a l.length cap l t _ (h.recs.ext E) (by omega)).mono ?_
  rintro e w2 ⟨rfl, rfl⟩
  have n := N.cell
  have f := N.fr
  have E9 := put14_ext E (w.heap.size + 1) (by omega) (.int .i64 0) (.int .i64 0) (.int .i64 0) (.int .i64 0) (.int .i64 0) (.int .i64 0) (.int .i64 0) (.int .i64 0) (.int .i64 0) (.int .i64 0) (.int .i64 0) (.int .i64 0) (.slice none 0 0) (.int .i64 0)
  go_wp2_with fail
  refine bodyPost_ret (v := .tuple #[.agg (wdCells noPg noPg noPg (.slice none 0 0) 0), .int .i64 7]) (by simp [results, Try.results42, go_sem, n]) rfl ⟨rfl, ?_⟩
  exact E9
set_option maxHeartbeats 4000000 in
theorem commitOf_6 (p q r : Pg) (a : Option Addr) (cap : Nat) (l : List Rc) (safe : Int) (t : Int) (w : World) (h : LogIn w a l.length cap l) (hz : worldErr p q r l safe = 0) (h0 : wi t 1 9 = true) (hl60 : l.length ≤ 60) (hb0 : (stateR l t == 0) = false) (hst : 1 < stateR l t) :
    Calls Try.prog 42 #[wdVal p q r (.slice a l.length cap) safe, .int .i64 t] w fun e w' => e = .returned (.tuple #[wdVal noPg noPg noPg (.slice none 0 0) 0, .int .i64 6]) ∧ Ext w w' := by
  have E0 := ((Ext.refl w).alloc (.cells (wdCells p q r (.slice a l.length cap) safe) 51)).alloc (.cells (wdCells noPg noPg noPg (.slice none 0 0) 0) 51)
  have B0 := (Blk.new w w.heap.size (wdCells p q r (.slice a l.length cap) safe) 51 rfl).alloc (.cells (wdCells noPg noPg noPg (.slice none 0 0) 0) 51)
  have N0 := Blk.new (w.alloc (.cells (wdCells p q r (.slice a l.length cap) safe) 51)) (w.heap.size + 1) (wdCells noPg noPg noPg (.slice none 0 0) 0) 51 (by simp)
  have H := worldError_any p q r a l.length cap l safe _ (h.recs.ext E0) h.le h.max
  rw [hz] at H
  clear hz
  have b0 := B0.cell
  go_enter Try.func42, Try.ntmps42
  go_wp2_with fail
  refine H.mono ?_
  rintro e w1 ⟨rfl, hE⟩
  have E := E0.trans hE
  have B := B0.ext hE
  have N := N0.ext hE
  clear H b0 B0 N0 E0 hE
  go_wp2_with fail
  refine (within_any t 1 9 _).mono ?_
  rintro e w2 ⟨rfl, rfl⟩
  rw [h0]
  have b1 := B.cell
  go_wp2_with fail
  refine (state_any a l.length cap l t _ (h.recs.ext E) (by omega)).mono ?_
  rintro e w2 ⟨rfl, rfl⟩
  have n := N.cell
  have f := N.fr
  have E9 := put14_ext E (w.heap.size + 1) (by omega) (.int .i64 0) (.int .i64 0) (.int .i64 0) (.int .i64 0) (.int .i64 0) (.int .i64 0) (.int .i64 0) (.int .i64 0) (.int .i64 0) (.int .i64 0) (.int .i64 0) (.int .i64 0) (.slice none 0 0) (.int .i64 0)
  go_wp2_with fail
  refine bodyPost_ret (v := .tuple #[.agg (wdCells noPg noPg noPg (.slice none 0 0) 0), .int .i64 6]) (by simp [results, Try.results42, go_sem, n]) rfl ⟨rfl, ?_⟩
  exact E9
set_option maxHeartbeats 4000000 in
theorem commitOf_2a (p q r : Pg) (a : Option Addr) (cap : Nat) (l : List Rc) (safe : Int) (t : Int) (w : World) (h : LogIn w a l.length cap l) (hz : worldErr p q r l safe = 0) (h0 : wi t 1 9 = true) (hl60 : l.length ≤ 60) (hb0 : (stateR l t == 0) = false) (hst : ¬ 1 < stateR l t) (hfull : l.length = 60) :
    Calls Try.prog 42 #[wdVal p q r (.slice a l.length cap) safe, .int .i64 t] w fun e w' => e = .returned (.tuple #[wdVal noPg noPg noPg (.slice none 0 0) 0, .int .i64 2]) ∧ Ext w w' := by
  have E0 := ((Ext.refl w).alloc (.cells (wdCells p q r (.slice a l.length cap) safe) 51)).alloc (.cells (wdCells noPg noPg noPg (.slice none 0 0) 0) 51)
  have B0 := (Blk.new w w.heap.size (wdCells p q r (.slice a l.length cap) safe) 51 rfl).alloc (.cells (wdCells noPg noPg noPg (.slice none 0 0) 0) 51)
  have N0 := Blk.new (w.alloc (.cells (wdCells p q r (.slice a l.length cap) safe) 51)) (w.heap.size + 1) (wdCells noPg noPg noPg (.slice none 0 0) 0) 51 (by simp)
  have H := worldError_any p q r a l.length cap l safe _ (h.recs.ext E0) h.le h.max
  have HFull := (show Hid (l.length = 60) from hfull)
  clear hfull
  rw [hz] at H
  clear hz
  have b0 := B0.cell
  go_enter Try.func42, Try.ntmps42
  go_wp2_with fail
  refine H.mono ?_
  rintro e w1 ⟨rfl, hE⟩
  have E := E0.trans hE
  have B := B0.ext hE
  have N := N0.ext hE
  clear H b0 B0 N0 E0 hE
  go_wp2_with fail
  refine (within_any t 1 9 _).mono ?_
  rintro e w2 ⟨rfl, rfl⟩
  rw [h0]
  have b1 := B.cell
  go_wp2_with fail
  refine (state_any a l.length cap l t _ (h.recs.ext E) (by omega)).mono ?_
  rintro e w2 ⟨rfl, rfl⟩
  go_wp2_with fail
  refine (ownWorld_any p q r a l.length cap l safe _ (h.ext E) hl60).mono ?_
  rintro e w4 ⟨a', cap', rfl, hw, hown⟩
  have E4 := (E.trans hw).alloc (.cells (wdCells p q r (.slice a' l.length cap') safe) 51)
  have N4 := (N.ext hw).alloc (.cells (wdCells p q r (.slice a' l.length cap') safe) 51)
  have D4 := Blk.new w4 w4.heap.size (wdCells p q r (.slice a' l.length cap') safe) 51 rfl
  have own4 := own_ext hown ((Ext.refl w4).alloc (.cells (wdCells p q r (.slice a' l.length cap') safe) 51))
  have hd4 : w2.heap.size ≤ w4.heap.size := hw.size
  have hn4 : w.heap.size + 1 < w2.heap.size := N.lt
  have hEs := E.size
  clear b1 hown hw
  go_wp2_with fail
  refine (refPut_full w4.heap.size p q r a' cap' l safe ⟨2, t, 0, 0, 0, 0, 0, 0⟩ _ D4 HFull.out).mono ?_
  rintro e w6 ⟨rfl, hw⟩
  replace E4 := E4.trans hw
  replace N4 := N4.ext hw
  have n := N4.cell
  have f := N4.fr
  have E9 := put14_ext E4 (w.heap.size + 1) (by omega) (.int .i64 0) (.int .i64 0) (.int .i64 0) (.int .i64 0) (.int .i64 0) (.int .i64 0) (.int .i64 0) (.int .i64 0) (.int .i64 0) (.int .i64 0) (.int .i64 0) (.int .i64 0) (.slice none 0 0) (.int .i64 0)
  go_wp2_with fail
  refine bodyPost_ret (v := .tuple #[.agg (wdCells noPg noPg noPg (.slice none 0 0) 0), .int .i64 2]) (by simp [results, Try.results42, go_sem, n]) rfl ⟨rfl, ?_⟩
  exact E9
set_option maxHeartbeats 4000000 in
theorem commitOf_2b (p q r : Pg) (a : Option Addr) (cap : Nat) (l : List Rc) (safe : Int) (t : Int) (w : World) (h : LogIn w a l.length cap l) (hz : worldErr p q r l safe = 0) (h0 : wi t 1 9 = true) (hl60 : l.length ≤ 60) (hb0 : (stateR l t == 0) = false) (hst : ¬ 1 < stateR l t) (hne60 : l.length < 60) (hfull : l.length + 1 = 60) :
    Calls Try.prog 42 #[wdVal p q r (.slice a l.length cap) safe, .int .i64 t] w fun e w' => e = .returned (.tuple #[wdVal noPg noPg noPg (.slice none 0 0) 0, .int .i64 2]) ∧ Ext w w' := by
  have E0 := ((Ext.refl w).alloc (.cells (wdCells p q r (.slice a l.length cap) safe) 51)).alloc (.cells (wdCells noPg noPg noPg (.slice none 0 0) 0) 51)
  have B0 := (Blk.new w w.heap.size (wdCells p q r (.slice a l.length cap) safe) 51 rfl).alloc (.cells (wdCells noPg noPg noPg (.slice none 0 0) 0) 51)
  have N0 := Blk.new (w.alloc (.cells (wdCells p q r (.slice a l.length cap) safe) 51)) (w.heap.size + 1) (wdCells noPg noPg noPg (.slice none 0 0) 0) 51 (by simp)
  have H := worldError_any p q r a l.length cap l safe _ (h.recs.ext E0) h.le h.max
  have HFull := (show Hid (l.length + 1 = 60) from hfull)
  clear hfull
  have HR1 : Hid (l ++ [linkR l ⟨2, t, 0, 0, 0, 0, 0, 0⟩] = l ++ [commitRec l t]) := rfl
  have HL1 : Hid ((l ++ [commitRec l t]).length = l.length + 1) := by simp [Hid]
  rw [hz] at H
  clear hz
  have b0 := B0.cell
  go_enter Try.func42, Try.ntmps42
  go_wp2_with fail
  refine H.mono ?_
  rintro e w1 ⟨rfl, hE⟩
  have E := E0.trans hE
  have B := B0.ext hE
  have N := N0.ext hE
  clear H b0 B0 N0 E0 hE
  go_wp2_with fail
  refine (within_any t 1 9 _).mono ?_
  rintro e w2 ⟨rfl, rfl⟩
  rw [h0]
  have b1 := B.cell
  go_wp2_with fail
  refine (state_any a l.length cap l t _ (h.recs.ext E) (by omega)).mono ?_
  rintro e w2 ⟨rfl, rfl⟩
  go_wp2_with fail
  refine (ownWorld_any p q r a l.length cap l safe _ (h.ext E) hl60).mono ?_
  rintro e w4 ⟨a', cap', rfl, hw, hown⟩
  have E4 := (E.trans hw).alloc (.cells (wdCells p q r (.slice a' l.length cap') safe) 51)
  have N4 := (N.ext hw).alloc (.cells (wdCells p q r (.slice a' l.length cap') safe) 51)
  have D4 := Blk.new w4 w4.heap.size (wdCells p q r (.slice a' l.length cap') safe) 51 rfl
  have own4 := own_ext hown ((Ext.refl w4).alloc (.cells (wdCells p q r (.slice a' l.length cap') safe) 51))
  have hd4 : w2.heap.size ≤ w4.heap.size := hw.size
  have hn4 : w.heap.size + 1 < w2.heap.size := N.lt
  have hEs := E.size
  clear b1 hown hw
  go_wp2_with fail
  refine (refPut_any w2.heap.size w4.heap.size p q r a' cap' l safe ⟨2, t, 0, 0, 0, 0, 0, 0⟩ _ D4 own4 (by omega) hd4).mono ?_
  rintro e w6 ⟨rfl, hbel, a6, cap6, D6, own6⟩
  have N6 : Blk w6 (w.heap.size + 1) (wdCells noPg noPg noPg (.slice none 0 0) 0) 51 := by
    have := hbel.block (w.heap.size + 1) hn4
    unfold Blk; rw [this]; exact N4
  have E6 : Ext w w6 := Below.trans E4 (Below.mono hbel hEs)
  rw [HR1.out, HL1.out] at own6
  have D7 := D6.set 13 (.int .i64 ((l.length : Int) + 1))
  have D7' : Blk (w6.setCell ⟨w4.heap.size, 13, none⟩ (.int .i64 ((l.length : Int) + 1))) w4.heap.size (wdCells p q r (.slice a6 (l ++ [commitRec l t]).length cap6) ((l.length : Int) + 1)) 51 := by rw [HL1.out]; exact D7
  have N7 := N6.other ⟨w4.heap.size, 13, none⟩ (.int .i64 ((l.length : Int) + 1)) (by dsimp only; omega)
  have E7 := E6.setCell (p := ⟨w4.heap.size, 13, none⟩) (by dsimp only; omega) (.int .i64 ((l.length : Int) + 1))
  have G7 : Gr (some w4.heap.size) w6 (w6.setCell ⟨w4.heap.size, 13, none⟩ (.int .i64 ((l.length : Int) + 1))) := (Gr.refl (some w4.heap.size) w6).set (p := ⟨w4.heap.size, 13, none⟩) (Or.inr rfl) _
  have own7 := own_gr own6 G7 (fun k hk e => by injection e with e; exact own_notblk own6 D6 (by decide) k hk e)
  have own7' : (w6.setCell ⟨w4.heap.size, 13, none⟩ (.int .i64 ((l.length : Int) + 1))).ownsRow w2.heap.size 39 8 (.slice a6 (l ++ [commitRec l t]).length cap6) (l ++ [commitRec l t]).length (flat (l ++ [commitRec l t])) := by rw [HL1.out]; exact own7
  have HD7 := (show Hid _ from D7')
  have HO7 := (show Hid _ from own7')
  have c6 := D6.cell
  have f6 := D6.fr
  clear own4 D4 N4 E4 hbel own6 own7 G7 D7 D7' own7'
  go_wp2_with fail
  clear c6 f6
  have HC := refPut_full w4.heap.size p q r a6 cap6 (l ++ [commitRec l t]) ((l.length : Int) + 1) ⟨4, t, 0, 0, 0, 0, 0, 0⟩ _ HD7.out (by rw [HL1.out]; exact HFull.out)
  refine HC.mono ?_
  rintro e w8 ⟨rfl, hw⟩
  replace E7 := E7.trans hw
  replace N7 := N7.ext hw
  clear HC HD7 HO7
  have n := N7.cell
  have f := N7.fr
  have E9 := put14_ext E7 (w.heap.size + 1) (by omega) (.int .i64 0) (.int .i64 0) (.int .i64 0) (.int .i64 0) (.int .i64 0) (.int .i64 0) (.int .i64 0) (.int .i64 0) (.int .i64 0) (.int .i64 0) (.int .i64 0) (.int .i64 0) (.slice none 0 0) (.int .i64 0)
  go_wp2_with fail
  refine bodyPost_ret (v := .tuple #[.agg (wdCells noPg noPg noPg (.slice none 0 0) 0), .int .i64 2]) (by simp [results, Try.results42, go_sem, n]) rfl ⟨rfl, ?_⟩
  exact E9
set_option maxHeartbeats 4000000 in
theorem commitOf_0 (p q r : Pg) (a : Option Addr) (cap : Nat) (l : List Rc) (safe : Int) (t : Int) (w : World) (h : LogIn w a l.length cap l) (hz : worldErr p q r l safe = 0) (h0 : wi t 1 9 = true) (hl60 : l.length ≤ 60) (hb0 : (stateR l t == 0) = false) (hst : ¬ 1 < stateR l t) (hroom : l.length < 59) :
    Calls Try.prog 42 #[wdVal p q r (.slice a l.length cap) safe, .int .i64 t] w fun e w' => ∃ a' cap', e = .returned (.tuple #[wdVal p q r (.slice a' ((l ++ [commitRec l t]) ++ [endRec l t]).length cap') ((l.length : Int) + 1), .int .i64 0]) ∧ Ext w w' ∧ LogIn w' a' ((l ++ [commitRec l t]) ++ [endRec l t]).length cap' ((l ++ [commitRec l t]) ++ [endRec l t]) ∧ ∀ ad, a' = some ad → w.heap.size ≤ ad.block := by
  have E0 := ((Ext.refl w).alloc (.cells (wdCells p q r (.slice a l.length cap) safe) 51)).alloc (.cells (wdCells noPg noPg noPg (.slice none 0 0) 0) 51)
  have B0 := (Blk.new w w.heap.size (wdCells p q r (.slice a l.length cap) safe) 51 rfl).alloc (.cells (wdCells noPg noPg noPg (.slice none 0 0) 0) 51)
  have N0 := Blk.new (w.alloc (.cells (wdCells p q r (.slice a l.length cap) safe) 51)) (w.heap.size + 1) (wdCells noPg noPg noPg (.slice none 0 0) 0) 51 (by simp)
  have H := worldError_any p q r a l.length cap l safe _ (h.recs.ext E0) h.le h.max
  have HR2 : Hid ((l ++ [commitRec l t]) ++ [linkR (l ++ [commitRec l t]) ⟨4, t, 0, 0, 0, 0, 0, 0⟩] = (l ++ [commitRec l t]) ++ [endRec l t]) := by
    unfold Hid linkR endRec
    dsimp only
    rw [show lastR (l ++ [commitRec l t]) t = l.length + 1 from by rw [lastR_snoc]; simp [commitRec]]
  have HL : Hid (((l ++ [commitRec l t]) ++ [endRec l t]).length = l.length + 1 + 1) := by simp [Hid]
  generalize (l ++ [commitRec l t]) ++ [endRec l t] = l' at *
  have hne60 : l.length < 60 := by omega
  have HR1 : Hid (l ++ [linkR l ⟨2, t, 0, 0, 0, 0, 0, 0⟩] = l ++ [commitRec l t]) := rfl
  have HL1 : Hid ((l ++ [commitRec l t]).length = l.length + 1) := by simp [Hid]
  rw [hz] at H
  clear hz
  have b0 := B0.cell
  go_enter Try.func42, Try.ntmps42
  go_wp2_with fail
  refine H.mono ?_
  rintro e w1 ⟨rfl, hE⟩
  have E := E0.trans hE
  have B := B0.ext hE
  have N := N0.ext hE
  clear H b0 B0 N0 E0 hE
  go_wp2_with fail
  refine (within_any t 1 9 _).mono ?_
  rintro e w2 ⟨rfl, rfl⟩
  rw [h0]
  have b1 := B.cell
  go_wp2_with fail
  refine (state_any a l.length cap l t _ (h.recs.ext E) (by omega)).mono ?_
  rintro e w2 ⟨rfl, rfl⟩
  go_wp2_with fail
  refine (ownWorld_any p q r a l.length cap l safe _ (h.ext E) hl60).mono ?_
  rintro e w4 ⟨a', cap', rfl, hw, hown⟩
  have E4 := (E.trans hw).alloc (.cells (wdCells p q r (.slice a' l.length cap') safe) 51)
  have N4 := (N.ext hw).alloc (.cells (wdCells p q r (.slice a' l.length cap') safe) 51)
  have D4 := Blk.new w4 w4.heap.size (wdCells p q r (.slice a' l.length cap') safe) 51 rfl
  have own4 := own_ext hown ((Ext.refl w4).alloc (.cells (wdCells p q r (.slice a' l.length cap') safe) 51))
  have hd4 : w2.heap.size ≤ w4.heap.size := hw.size
  have hn4 : w.heap.size + 1 < w2.heap.size := N.lt
  have hEs := E.size
  clear b1 hown hw
  go_wp2_with fail
  refine (refPut_any w2.heap.size w4.heap.size p q r a' cap' l safe ⟨2, t, 0, 0, 0, 0, 0, 0⟩ _ D4 own4 (by omega) hd4).mono ?_
  rintro e w6 ⟨rfl, hbel, a6, cap6, D6, own6⟩
  have N6 : Blk w6 (w.heap.size + 1) (wdCells noPg noPg noPg (.slice none 0 0) 0) 51 := by
    have := hbel.block (w.heap.size + 1) hn4
    unfold Blk; rw [this]; exact N4
  have E6 : Ext w w6 := Below.trans E4 (Below.mono hbel hEs)
  rw [HR1.out, HL1.out] at own6
  have D7 := D6.set 13 (.int .i64 ((l.length : Int) + 1))
  have D7' : Blk (w6.setCell ⟨w4.heap.size, 13, none⟩ (.int .i64 ((l.length : Int) + 1))) w4.heap.size (wdCells p q r (.slice a6 (l ++ [commitRec l t]).length cap6) ((l.length : Int) + 1)) 51 := by rw [HL1.out]; exact D7
  have N7 := N6.other ⟨w4.heap.size, 13, none⟩ (.int .i64 ((l.length : Int) + 1)) (by dsimp only; omega)
  have E7 := E6.setCell (p := ⟨w4.heap.size, 13, none⟩) (by dsimp only; omega) (.int .i64 ((l.length : Int) + 1))
  have G7 : Gr (some w4.heap.size) w6 (w6.setCell ⟨w4.heap.size, 13, none⟩ (.int .i64 ((l.length : Int) + 1))) := (Gr.refl (some w4.heap.size) w6).set (p := ⟨w4.heap.size, 13, none⟩) (Or.inr rfl) _
  have own7 := own_gr own6 G7 (fun k hk e => by injection e with e; exact own_notblk own6 D6 (by decide) k hk e)
  have own7' : (w6.setCell ⟨w4.heap.size, 13, none⟩ (.int .i64 ((l.length : Int) + 1))).ownsRow w2.heap.size 39 8 (.slice a6 (l ++ [commitRec l t]).length cap6) (l ++ [commitRec l t]).length (flat (l ++ [commitRec l t])) := by rw [HL1.out]; exact own7
  have HD7 := (show Hid _ from D7')
  have HO7 := (show Hid _ from own7')
  have c6 := D6.cell
  have f6 := D6.fr
  clear own4 D4 N4 E4 hbel own6 own7 G7 D7 D7' own7'
  go_wp2_with fail
  clear c6 f6
  have HC := refPut_any w2.heap.size w4.heap.size p q r a6 cap6 (l ++ [commitRec l t]) ((l.length : Int) + 1) ⟨4, t, 0, 0, 0, 0, 0, 0⟩ _ HD7.out HO7.out (by rw [HL1.out]; omega) hd4
  refine HC.mono ?_
  rintro e w8 ⟨rfl, hbel, a8, cap8, D8, own8⟩
  have N8 : Blk w8 (w.heap.size + 1) (wdCells noPg noPg noPg (.slice none 0 0) 0) 51 := by
    have := hbel.block (w.heap.size + 1) hn4
    unfold Blk; rw [this]; exact N7
  have E8 : Ext w w8 := Below.trans E7 (Below.mono hbel hEs)
  rw [HR2.out] at own8
  rw [HL1.out] at D8 own8
  have E9 := put14_ext E8 (w.heap.size + 1) (by omega) (.int .i64 p.c0) (.int .i64 p.c1) (.int .i64 p.c2) (.int .i64 p.last) (.int .i64 q.c0) (.int .i64 q.c1) (.int .i64 q.c2) (.int .i64 q.last) (.int .i64 r.c0) (.int .i64 r.c1) (.int .i64 r.c2) (.int .i64 r.last) (.slice a8 (l.length + 1 + 1) cap8) (.int .i64 ((l.length : Int) + 1))
  have G9 := put14_gr w8 (w.heap.size + 1) (.int .i64 p.c0) (.int .i64 p.c1) (.int .i64 p.c2) (.int .i64 p.last) (.int .i64 q.c0) (.int .i64 q.c1) (.int .i64 q.c2) (.int .i64 q.last) (.int .i64 r.c0) (.int .i64 r.c1) (.int .i64 r.c2) (.int .i64 r.last) (.slice a8 (l.length + 1 + 1) cap8) (.int .i64 ((l.length : Int) + 1))
  have own9 := own_gr own8 G9 (fun k hk e => by injection e with e; have := own_from own8 k hk; omega)
  have HIn := (show Hid _ from own_in2 own9 (by have := HL.out; omega))
  have HFrom : Hid (∀ ad, a8 = some ad → w.heap.size ≤ ad.block) := fun ad e => by have := own_from own8 ad.block (by rw [e]; rfl); omega
  have dd := D8.cell
  have nn := N8.cell
  have ff := N8.fr
  have hne : w4.heap.size ≠ w.heap.size + 1 := by omega
  clear hbel own8 G9 own9 N7 E7 HC HD7 HO7 HR2
  go_wp2_with fail
  refine bodyPost_ret (v := .tuple #[.agg (wdCells p q r (.slice a8 (l.length + 1 + 1) cap8) ((l.length : Int) + 1)), .int .i64 0]) (by simp [results, Try.results42, go_sem, nn]) rfl ⟨a8, cap8, by rw [HL.out], ?_, ?_, HFrom.out⟩
  · exact E9
  · exact HIn.out
theorem commitOf_any (p q r : Pg) (a : Option Addr) (len cap : Nat) (l : List Rc) (safe t : Int) (w : World) (h : LogIn w a len cap l) :
    Calls Try.prog 42 #[wdVal p q r (.slice a len cap) safe, .int .i64 t] w fun e w' => Ext w w' ∧ WorkAns w.heap.size w' e p q r (errOf (worldErr p q r l safe) (commitErr l t)) ((l ++ [commitRec l t]) ++ [endRec l t]) ((l.length + 1 : Nat) : Int) := by
  obtain rfl := h.recs.len
  have nope : ∀ (k x : Int), x = k → k ≠ 0 → Calls Try.prog 42 #[wdVal p q r (.slice a l.length cap) safe, .int .i64 t] w (fun e w' => e = .returned (.tuple #[wdVal noPg noPg noPg (.slice none 0 0) 0, .int .i64 k]) ∧ Ext w w') →
      Calls Try.prog 42 #[wdVal p q r (.slice a l.length cap) safe, .int .i64 t] w fun e w' => Ext w w' ∧ WorkAns w.heap.size w' e p q r x ((l ++ [commitRec l t]) ++ [endRec l t]) ((l.length + 1 : Nat) : Int) := fun k x hx hk H => by
    subst hx
    exact H.mono fun e w' ⟨h1, h2⟩ => ⟨h2, Or.inr ⟨hk, h1⟩⟩
  by_cases hz : worldErr p q r l safe = 0
  · obtain ⟨hl60, _⟩ := logErr_zero (worldErr_zero hz).1
    rw [errOf_0 hz]
    cases h0 : wi t 1 9
    · exact nope 3 _ (commitErr_3 (by rw [out_one, h0]; rfl)) (by decide) (commitOf_3 p q r a cap l safe t w h hz h0)
    have hn : out 1 9 [t] = false := by rw [out_one, h0]; rfl
    by_cases hs0 : stateR l t = 0
    · exact nope 7 _ (commitErr_7 hn hs0) (by decide) (commitOf_7 p q r a cap l safe t w h hz h0 hl60 (by simpa using hs0))
    have hb0 : (stateR l t == 0) = false := by simpa using hs0
    by_cases hst : 1 < stateR l t
    · exact nope 6 _ (commitErr_6 hn hs0 hst) (by decide) (commitOf_6 p q r a cap l safe t w h hz h0 hl60 hb0 hst)
    by_cases hfull : l.length = 60
    · exact nope 2 _ (commitErr_2 hn hs0 hst (by omega)) (by decide) (commitOf_2a p q r a cap l safe t w h hz h0 hl60 hb0 hst hfull)
    by_cases hfull2 : l.length + 1 = 60
    · exact nope 2 _ (commitErr_2 hn hs0 hst (by omega)) (by decide) (commitOf_2b p q r a cap l safe t w h hz h0 hl60 hb0 hst (by omega) hfull2)
    rw [commitErr_0 hn hs0 hst (by omega)]
    exact (commitOf_0 p q r a cap l safe t w h hz h0 hl60 hb0 hst (by omega)).mono fun e w' ⟨a', cap', h1, h2, h3, h4⟩ => ⟨h2, Or.inl ⟨rfl, a', cap', h1, h3, h4⟩⟩
  · exact nope _ _ (errOf_1 hz) hz (commitOf_w p q r a cap l safe t w h hz)
end Go.Proofs.Ytgojonhjhdbpkaa.B
namespace Go.Proofs.Ytgojonhjhdbpkaa.B
set_option maxRecDepth 100000
open Go.ChangeShapes Go.WideShapes Go.ChangeAt Go.RowKit

set_option maxHeartbeats 8000000 in
theorem workCommits_go (w : World) (p q r : Pg) (a : Option Addr) (len cap : Nat) (l : List Rc) (safe : Int) (h : LogIn w a len cap l) (t : Int) (_ : IntKind.i64.has t) :
    Calls Try.prog 14 #[wdVal p q r (.slice a len cap) safe, .int .i64 t] w fun e w' => e = .returned (.bool true) ∧ Ext w w' := by
  have H1 := fun w' (e : Ext w w') => workCommit_any p q r a len cap l safe t w' (h.ext e)
  have H2 := fun w' (e : Ext w w') => commitOf_any p q r a len cap l safe t w' (h.ext e)
  have HL : Hid (errOf (worldErr p q r l safe) (commitErr l t) = 0 → ((l ++ [commitRec l t]) ++ [endRec l t]).length ≤ 1000) := fun h0 => by
    have hz : worldErr p q r l safe = 0 := by
      by_cases hz : worldErr p q r l safe = 0
      · exact hz
      · unfold errOf at h0; rw [if_neg hz] at h0; exact absurd h0 hz
    have := (logErr_zero (worldErr_zero hz).1).1
    simp; omega
  generalize errOf (worldErr p q r l safe) (commitErr l t) = xx at *
  generalize (l ++ [commitRec l t]) ++ [endRec l t] = l' at *
  generalize ((l.length + 1 : Nat) : Int) = safe' at *
  have E0 := (Ext.refl w).alloc (.cells (wdCells p q r (.slice a len cap) safe) 51)
  have B0 := Blk.new w w.heap.size (wdCells p q r (.slice a len cap) safe) 51 rfl
  have b0 := B0.cell
  go_enter Try.func14, Try.ntmps14
  go_wp2_with fail
  refine (H1 _ E0).mono ?_
  rintro e w1 ⟨hw, ⟨hx, a1, cap1, rfl, hin1, _⟩ | ⟨hx, rfl⟩⟩
  · have hl1000 := HL.out hx
    have HX := (show Hid (xx = 0) from hx)
    clear hx
    have o1 := (Ext.refl w1).alloc (.cells (wdCells p q r (.slice a1 l'.length cap1) safe') 51)
    have X := Blk.new w1 w1.heap.size (wdCells p q r (.slice a1 l'.length cap1) safe') 51 rfl
    have E1 := (E0.trans hw).trans o1
    have B1 := (B0.ext hw).ext o1
    have I1 := hin1.ext o1
    clear hw o1 b0 B0 E0 hin1
    have b1 := B1.cell
    go_wp2_with fail
    refine (H2 _ E1).mono ?_
    rintro e w2 ⟨hw, ⟨_, a2, cap2, rfl, hin2, _⟩ | ⟨hx, _⟩⟩
    rotate_left
    · exact absurd HX.out hx
    have o2 := (Ext.refl w2).alloc (.cells (wdCells p q r (.slice a2 l'.length cap2) safe') 51)
    have Y := Blk.new w2 w2.heap.size (wdCells p q r (.slice a2 l'.length cap2) safe') 51 rfl
    have E2 := (E1.trans hw).trans o2
    have X2 := (X.ext hw).ext o2
    have I2 := (I1.ext hw).ext o2
    have J2 := hin2.ext o2
    clear hw o2 b1 B1 E1 X I1 hin2 H1 H2
    go_wp2_with fail
    refine (workBegun_any _).mono ?_
    rintro e w3 ⟨rfl, hw⟩
    have E3 := E2.trans hw
    have xc := (X2.ext hw).cell
    have yc := (Y.ext hw).cell
    have I3 := I2.recs.ext hw
    have J3 := J2.recs.ext hw
    clear hw E2 X2 Y I2 J2
    go_wp2_with fail
    refine (sameWorlds_eq p q r safe' a1 a2 l'.length cap1 cap2 l' _ I3 J3 hl1000).mono ?_
    rintro e w4 ⟨rfl, hw⟩
    go_wp2_with fail
    go_ret
    exact ⟨rfl, E3.trans hw⟩
  · have HX := (show Hid (xx ≠ 0) from hx)
    clear hx
    have o1 := (Ext.refl w1).alloc (.cells (wdCells noPg noPg noPg (.slice none 0 0) 0) 51)
    have X := Blk.new w1 w1.heap.size (wdCells noPg noPg noPg (.slice none 0 0) 0) 51 rfl
    have E1 := (E0.trans hw).trans o1
    have B1 := (B0.ext hw).ext o1
    clear hw o1 b0 B0 E0
    have b1 := B1.cell
    go_wp2_with fail
    refine (H2 _ E1).mono ?_
    rintro e w2 ⟨hw, ⟨hx, _⟩ | ⟨_, rfl⟩⟩
    · exact absurd hx HX.out
    have o2 := (Ext.refl w2).alloc (.cells (wdCells noPg noPg noPg (.slice none 0 0) 0) 51)
    have Y := Blk.new w2 w2.heap.size (wdCells noPg noPg noPg (.slice none 0 0) 0) 51 rfl
    have E2 := (E1.trans hw).trans o2
    have X2 := (X.ext hw).ext o2
    clear hw o2 b1 B1 E1 X H1 H2
    go_wp2_with fail
    refine (workBegun_any _).mono ?_
    rintro e w3 ⟨rfl, hw⟩
    have E3 := E2.trans hw
    have xc := (X2.ext hw).cell
    have yc := (Y.ext hw).cell
    clear hw E2 X2 Y
    go_wp2_with fail
    refine (sameWorlds_eq noPg noPg noPg 0 none none 0 0 0 [] _ (recs_none _) (recs_none _) (by decide)).mono ?_
    rintro e w4 ⟨rfl, hw⟩
    go_wp2_with fail
    go_ret
    exact ⟨by simp, E3.trans hw⟩

set_option maxRecDepth 100000 in
theorem workCommits_lifted (os : Os) (started : os.Started) (H : Type) (enc : TypeId × Value → H) :
    ReturnsInHanded {} Try.checked os 14 .any (Rows.workCommitsSpec.pre6 enc Try.prog Try.f14 Rows.workCommitsRow.domain false) (Rows.workCommitsSpec.post enc Try.prog Try.f14 false true false false) := by
  refine returnsInHanded_of_change (C := Try.checked) own started (by kernel_rfl) Try.func14
    (ChangeSpec.witness6 (enc := enc) (C := Try.checked) false ⟨#[], #[.agg #[.int .i64 0, .int .i64 0, .int .i64 0, .int .i64 0, .int .i64 0, .int .i64 0, .int .i64 0, .int .i64 0, .int .i64 0, .int .i64 0, .int .i64 0, .int .i64 0, .slice none 0 0, .int .i64 0], .int .i64 0], []⟩ 8 (by kernel_rfl) (by kernel_rfl) (by kernel_rfl) (by kernel_rfl)) ?_
  intro W base args ds gs before hval0 hW hcnd _
  have hval : ∀ (j : Nat) t v, Try.f14.params[j]? = some t → args[j]? = some v → Value.okWide Try.prog W .any base t v := hval0
  have hW' := hW
  obtain ⟨p, q, hA0, hV, rfl, hfz, hnd⟩ := hW
  have hA : DataW.TrodAll enc Try.prog W 0 (fun _ => true) true Try.f14.params.toList args.toList ds p := hA0
  rw [Try.params14] at hA hval
  obtain ⟨v0, vs0, d0, ds0, p0, q0, hargs, rfl, rfl, h0, r0⟩ := trodAll_cons hA
  obtain ⟨v1, vs1, d1, ds1, p1, q1, rfl, rfl, rfl, h1, r1⟩ := trodAll_cons r0
  obtain ⟨rfl, rfl, rfl⟩ := trodAll_nil r1
  obtain rfl : args = #[v0, v1] := by cases args; simp_all
  obtain ⟨rfl, rfl⟩ := trodVars_none hV
  obtain ⟨P0, Q0, R0, x0, len0, cap0, l0, safe0, rfl, s0⟩ := open_wd (hval 0 51 v0 rfl rfl) h0
  obtain ⟨a1, rfl, b1⟩ := open_num (hval 1 3 v1 rfl rfl)
  clear hA0 hval0
  refine (workCommits_go W P0 Q0 R0 x0 len0 cap0 l0 safe0 s0 a1 b1).mono fun e W' ⟨he, bel⟩ => ?_
  subst he
  exact ⟨_, rfl, _, _, _, [], _, [], hW', trodAll_mk1 (shut_bool Try.underlying4 _),
    (trodAll_cons_mk (Below.trod laidOut (by kernel_rfl) (of_decide_eq_true (by kernel_rfl)) h0 bel (lt_of_trod h0))
    (trodAll_cons_mk (Below.trod laidOut (by kernel_rfl) (of_decide_eq_true (by kernel_rfl)) h1 bel (lt_of_trod h1))
    trodAll_mk0)), rfl, bel.frame _, fun h => by cases h⟩

theorem workCommits_over : Rows.workCommitsRow.holds Try.pinned (OpenSpec.ofChange Rows.workCommitsSpec) :=
  OpenClaim.holds_of_wide 14 Try.f14 rfl rfl rfl rfl rfl rfl rfl ⟨rfl, rfl, rfl, rfl, rfl⟩ rfl rfl rfl rfl rfl (by kernel_rfl) Try.func14 (by kernel_rfl)
    (of_decide_eq_true (by kernel_rfl)) (by unfold Func.isWrapper; first | (rw [if_pos (by decide +kernel)]; kernel_rfl) | (rw [if_neg (by decide +kernel)]; exact ⟨rfl, rfl⟩))
    (fun os started H enc _ => workCommits_lifted os started H enc)
end Go.Proofs.Ytgojonhjhdbpkaa.B
namespace Go.Proofs.Ytgojonhjhdbpkaa
theorem workCommits_holds : Rows.WorkCommitsSaid := B.workCommits_over
#print axioms workCommits_holds
end Go.Proofs.Ytgojonhjhdbpkaa

