/- The contract of the reference's WriteTo. -/
import Derived.Test.YtibfgbmhmdggmaaGreatDoorWork6
namespace Go.Proofs.YtibfgbmhmdggmaaGreatDoor.B
set_option maxHeartbeats 32000000
set_option maxRecDepth 100000
open Go.ChangeShapes Go.WideShapes Go.ChangeAt Go.RowKit
theorem pick_old (a0 a1 a2 a3 a4 a5 a6 a7 a8 a9 a10 a11 : Int) {x c : Int} (h0 : 0 ≤ x) (h2 : x ≤ 2) (q0 : 0 ≤ c) (q2 : c ≤ 2) : ∃ y0 y1 y2 y3 z : Int, (∀ w, (Instr.index 35 (.agg #[.int .i64 a0, .int .i64 a1, .int .i64 a2, .int .i64 a3, .int .i64 a4, .int .i64 a5, .int .i64 a6, .int .i64 a7, .int .i64 a8, .int .i64 a9, .int .i64 a10, .int .i64 a11]) (.int .i64 x)).run Tryz.prog w = .ok (.agg #[.int .i64 y0, .int .i64 y1, .int .i64 y2, .int .i64 y3]) w) ∧
  (∀ w, (Instr.field 34 (.agg #[.int .i64 y0, .int .i64 y1, .int .i64 y2, .int .i64 y3]) 0).run Tryz.prog w = .ok (.agg #[.int .i64 y0, .int .i64 y1, .int .i64 y2]) w) ∧
  (∀ w, (Instr.index 32 (.agg #[.int .i64 y0, .int .i64 y1, .int .i64 y2]) (.int .i64 c)).run Tryz.prog w = .ok (.int .i64 z) w) ∧ z = [a0, a1, a2, a3, a4, a5, a6, a7, a8, a9, a10, a11].getD (x.toNat * 4 + c.toNat) 0 := by
 have hx : x = 0 ∨ x = 1 ∨ x = 2 := by omega
 have hc : c = 0 ∨ c = 1 ∨ c = 2 := by omega
 rcases hx with rfl | rfl | rfl
 ·rcases hc with rfl | rfl | rfl
  ·exact ⟨a0, a1, a2, a3, a0, fun w => by rw [index_pages _ 0 (by decide) (by decide)]; rfl, field_cells _ _ _ _, fun w => index_cells _ 0 _ (by decide) (by decide) rfl w, rfl⟩
  ·exact ⟨a0, a1, a2, a3, a1, fun w => by rw [index_pages _ 0 (by decide) (by decide)]; rfl, field_cells _ _ _ _, fun w => index_cells _ 1 _ (by decide) (by decide) rfl w, rfl⟩
  ·exact ⟨a0, a1, a2, a3, a2, fun w => by rw [index_pages _ 0 (by decide) (by decide)]; rfl, field_cells _ _ _ _, fun w => index_cells _ 2 _ (by decide) (by decide) rfl w, rfl⟩
 ·rcases hc with rfl | rfl | rfl
  ·exact ⟨a4, a5, a6, a7, a4, fun w => by rw [index_pages _ 1 (by decide) (by decide)]; rfl, field_cells _ _ _ _, fun w => index_cells _ 0 _ (by decide) (by decide) rfl w, rfl⟩
  ·exact ⟨a4, a5, a6, a7, a5, fun w => by rw [index_pages _ 1 (by decide) (by decide)]; rfl, field_cells _ _ _ _, fun w => index_cells _ 1 _ (by decide) (by decide) rfl w, rfl⟩
  ·exact ⟨a4, a5, a6, a7, a6, fun w => by rw [index_pages _ 1 (by decide) (by decide)]; rfl, field_cells _ _ _ _, fun w => index_cells _ 2 _ (by decide) (by decide) rfl w, rfl⟩
 ·rcases hc with rfl | rfl | rfl
  ·exact ⟨a8, a9, a10, a11, a8, fun w => by rw [index_pages _ 2 (by decide) (by decide)]; rfl, field_cells _ _ _ _, fun w => index_cells _ 0 _ (by decide) (by decide) rfl w, rfl⟩
  ·exact ⟨a8, a9, a10, a11, a9, fun w => by rw [index_pages _ 2 (by decide) (by decide)]; rfl, field_cells _ _ _ _, fun w => index_cells _ 1 _ (by decide) (by decide) rfl w, rfl⟩
  ·exact ⟨a8, a9, a10, a11, a10, fun w => by rw [index_pages _ 2 (by decide) (by decide)]; rfl, field_cells _ _ _ _, fun w => index_cells _ 2 _ (by decide) (by decide) rfl w, rfl⟩
theorem errOf_0 {we e : Int} (h : we = 0) : errOf we e = e := by unfold errOf; rw [if_pos h]
theorem errOf_1 {we e : Int} (h : we ≠ 0) : errOf we e = we := by unfold errOf; rw [if_neg h]
theorem writeTo_w (p q r : Pg) (a : Option Addr) (cap : Nat) (l : List Rc) (safe : Int) (t at_ c v : Int) (w : World) (h : LogIn w a l.length cap l) (hz : worldErr p q r l safe ≠ 0) :
  Calls Tryz.prog 29 #[wdVal p q r (.slice a l.length cap) safe, .int .i64 t, .int .i64 at_, .int .i64 c, .int .i64 v] w fun e w' => e = .returned (.tuple #[wdVal noPg noPg noPg (.slice none 0 0) 0, .int .i64 (worldErr p q r l safe)]) ∧ Ext w w' := by
 have E0 := ((Ext.refl w).alloc (.cells (wdCells p q r (.slice a l.length cap) safe) 38)).alloc (.cells (wdCells noPg noPg noPg (.slice none 0 0) 0) 38)
 have B0 := (Blk.new w w.heap.size (wdCells p q r (.slice a l.length cap) safe) 38 rfl).alloc (.cells (wdCells noPg noPg noPg (.slice none 0 0) 0) 38)
 have N0 := Blk.new (w.alloc (.cells (wdCells p q r (.slice a l.length cap) safe) 38)) (w.heap.size + 1) (wdCells noPg noPg noPg (.slice none 0 0) 0) 38 (by simp)
 have H := worldError_any p q r a l.length cap l safe _ (h.recs.ext E0) h.le h.max
 have hb : (worldErr p q r l safe != 0) = true := by simpa using hz
 generalize worldErr p q r l safe = we at *
 clear hz
 have b0 := B0.cell
 go_enter Tryz.func29, Tryz.ntmps29
 go_wp2_with fail
 refine H.mono ?_
 rintro e w1 ⟨rfl, hE⟩
 have E := E0.trans hE
 have B := B0.ext hE
 have N := N0.ext hE
 clear H b0 B0 N0 E0 hE
 have n := N.cell
 have f := N.fr
 have E9 := put14_ext E (w.heap.size + 1) (by omega) (.int .i64 0) (.int .i64 0) (.int .i64 0) (.int .i64 0) (.int .i64 0) (.int .i64 0) (.int .i64 0) (.int .i64 0) (.int .i64 0) (.int .i64 0) (.int .i64 0) (.int .i64 0) (.slice none 0 0) (.int .i64 0)
 go_wp2_with fail
 refine bodyPost_ret (v := .tuple #[.agg (wdCells noPg noPg noPg (.slice none 0 0) 0), .int .i64 we]) (by simp [results, Tryz.results29, go_sem, n]) rfl ⟨rfl, ?_⟩
 exact E9
theorem writeTo_n0 (p q r : Pg) (a : Option Addr) (cap : Nat) (l : List Rc) (safe : Int) (t at_ c v : Int) (w : World) (h : LogIn w a l.length cap l) (hz : worldErr p q r l safe = 0) (h0 : wi t 1 9 = false) :
  Calls Tryz.prog 29 #[wdVal p q r (.slice a l.length cap) safe, .int .i64 t, .int .i64 at_, .int .i64 c, .int .i64 v] w fun e w' => e = .returned (.tuple #[wdVal noPg noPg noPg (.slice none 0 0) 0, .int .i64 3]) ∧ Ext w w' := by
 have E0 := ((Ext.refl w).alloc (.cells (wdCells p q r (.slice a l.length cap) safe) 38)).alloc (.cells (wdCells noPg noPg noPg (.slice none 0 0) 0) 38)
 have B0 := (Blk.new w w.heap.size (wdCells p q r (.slice a l.length cap) safe) 38 rfl).alloc (.cells (wdCells noPg noPg noPg (.slice none 0 0) 0) 38)
 have N0 := Blk.new (w.alloc (.cells (wdCells p q r (.slice a l.length cap) safe) 38)) (w.heap.size + 1) (wdCells noPg noPg noPg (.slice none 0 0) 0) 38 (by simp)
 have H := worldError_any p q r a l.length cap l safe _ (h.recs.ext E0) h.le h.max
 rw [hz] at H
 clear hz
 have b0 := B0.cell
 go_enter Tryz.func29, Tryz.ntmps29
 go_wp2_with fail
 refine H.mono ?_
 rintro e w1 ⟨rfl, hE⟩
 have E := E0.trans hE
 have B := B0.ext hE
 have N := N0.ext hE
 clear H b0 B0 N0 E0 hE
 go_wp2_with fail
 refine (within_any t 1 9 _).mono ?_
 rintro e w2 ⟨rfl, rfl⟩
 rw [h0]
 have n := N.cell
 have f := N.fr
 have E9 := put14_ext E (w.heap.size + 1) (by omega) (.int .i64 0) (.int .i64 0) (.int .i64 0) (.int .i64 0) (.int .i64 0) (.int .i64 0) (.int .i64 0) (.int .i64 0) (.int .i64 0) (.int .i64 0) (.int .i64 0) (.int .i64 0) (.slice none 0 0) (.int .i64 0)
 go_wp2_with fail
 refine bodyPost_ret (v := .tuple #[.agg (wdCells noPg noPg noPg (.slice none 0 0) 0), .int .i64 3]) (by simp [results, Tryz.results29, go_sem, n]) rfl ⟨rfl, ?_⟩
 exact E9
theorem writeTo_n1 (p q r : Pg) (a : Option Addr) (cap : Nat) (l : List Rc) (safe : Int) (t at_ c v : Int) (w : World) (h : LogIn w a l.length cap l) (hz : worldErr p q r l safe = 0) (h0 : wi t 1 9 = true) (h1 : wi at_ 0 2 = false) :
  Calls Tryz.prog 29 #[wdVal p q r (.slice a l.length cap) safe, .int .i64 t, .int .i64 at_, .int .i64 c, .int .i64 v] w fun e w' => e = .returned (.tuple #[wdVal noPg noPg noPg (.slice none 0 0) 0, .int .i64 3]) ∧ Ext w w' := by
 have E0 := ((Ext.refl w).alloc (.cells (wdCells p q r (.slice a l.length cap) safe) 38)).alloc (.cells (wdCells noPg noPg noPg (.slice none 0 0) 0) 38)
 have B0 := (Blk.new w w.heap.size (wdCells p q r (.slice a l.length cap) safe) 38 rfl).alloc (.cells (wdCells noPg noPg noPg (.slice none 0 0) 0) 38)
 have N0 := Blk.new (w.alloc (.cells (wdCells p q r (.slice a l.length cap) safe) 38)) (w.heap.size + 1) (wdCells noPg noPg noPg (.slice none 0 0) 0) 38 (by simp)
 have H := worldError_any p q r a l.length cap l safe _ (h.recs.ext E0) h.le h.max
 rw [hz] at H
 clear hz
 have b0 := B0.cell
 go_enter Tryz.func29, Tryz.ntmps29
 go_wp2_with fail
 refine H.mono ?_
 rintro e w1 ⟨rfl, hE⟩
 have E := E0.trans hE
 have B := B0.ext hE
 have N := N0.ext hE
 clear H b0 B0 N0 E0 hE
 go_wp2_with fail
 refine (within_any t 1 9 _).mono ?_
 rintro e w2 ⟨rfl, rfl⟩
 rw [h0]
 go_wp2_with fail
 refine (within_any at_ 0 2 _).mono ?_
 rintro e w2 ⟨rfl, rfl⟩
 rw [h1]
 have n := N.cell
 have f := N.fr
 have E9 := put14_ext E (w.heap.size + 1) (by omega) (.int .i64 0) (.int .i64 0) (.int .i64 0) (.int .i64 0) (.int .i64 0) (.int .i64 0) (.int .i64 0) (.int .i64 0) (.int .i64 0) (.int .i64 0) (.int .i64 0) (.int .i64 0) (.slice none 0 0) (.int .i64 0)
 go_wp2_with fail
 refine bodyPost_ret (v := .tuple #[.agg (wdCells noPg noPg noPg (.slice none 0 0) 0), .int .i64 3]) (by simp [results, Tryz.results29, go_sem, n]) rfl ⟨rfl, ?_⟩
 exact E9
theorem writeTo_n2 (p q r : Pg) (a : Option Addr) (cap : Nat) (l : List Rc) (safe : Int) (t at_ c v : Int) (w : World) (h : LogIn w a l.length cap l) (hz : worldErr p q r l safe = 0) (h0 : wi t 1 9 = true) (h1 : wi at_ 0 2 = true) (h2 : wi c 0 2 = false) :
  Calls Tryz.prog 29 #[wdVal p q r (.slice a l.length cap) safe, .int .i64 t, .int .i64 at_, .int .i64 c, .int .i64 v] w fun e w' => e = .returned (.tuple #[wdVal noPg noPg noPg (.slice none 0 0) 0, .int .i64 3]) ∧ Ext w w' := by
 have E0 := ((Ext.refl w).alloc (.cells (wdCells p q r (.slice a l.length cap) safe) 38)).alloc (.cells (wdCells noPg noPg noPg (.slice none 0 0) 0) 38)
 have B0 := (Blk.new w w.heap.size (wdCells p q r (.slice a l.length cap) safe) 38 rfl).alloc (.cells (wdCells noPg noPg noPg (.slice none 0 0) 0) 38)
 have N0 := Blk.new (w.alloc (.cells (wdCells p q r (.slice a l.length cap) safe) 38)) (w.heap.size + 1) (wdCells noPg noPg noPg (.slice none 0 0) 0) 38 (by simp)
 have H := worldError_any p q r a l.length cap l safe _ (h.recs.ext E0) h.le h.max
 rw [hz] at H
 clear hz
 have b0 := B0.cell
 go_enter Tryz.func29, Tryz.ntmps29
 go_wp2_with fail
 refine H.mono ?_
 rintro e w1 ⟨rfl, hE⟩
 have E := E0.trans hE
 have B := B0.ext hE
 have N := N0.ext hE
 clear H b0 B0 N0 E0 hE
 go_wp2_with fail
 refine (within_any t 1 9 _).mono ?_
 rintro e w2 ⟨rfl, rfl⟩
 rw [h0]
 go_wp2_with fail
 refine (within_any at_ 0 2 _).mono ?_
 rintro e w2 ⟨rfl, rfl⟩
 rw [h1]
 go_wp2_with fail
 refine (within_any c 0 2 _).mono ?_
 rintro e w2 ⟨rfl, rfl⟩
 rw [h2]
 have n := N.cell
 have f := N.fr
 have E9 := put14_ext E (w.heap.size + 1) (by omega) (.int .i64 0) (.int .i64 0) (.int .i64 0) (.int .i64 0) (.int .i64 0) (.int .i64 0) (.int .i64 0) (.int .i64 0) (.int .i64 0) (.int .i64 0) (.int .i64 0) (.int .i64 0) (.slice none 0 0) (.int .i64 0)
 go_wp2_with fail
 refine bodyPost_ret (v := .tuple #[.agg (wdCells noPg noPg noPg (.slice none 0 0) 0), .int .i64 3]) (by simp [results, Tryz.results29, go_sem, n]) rfl ⟨rfl, ?_⟩
 exact E9
theorem writeTo_n3 (p q r : Pg) (a : Option Addr) (cap : Nat) (l : List Rc) (safe : Int) (t at_ c v : Int) (w : World) (h : LogIn w a l.length cap l) (hz : worldErr p q r l safe = 0) (h0 : wi t 1 9 = true) (h1 : wi at_ 0 2 = true) (h2 : wi c 0 2 = true) (h3 : wi v 0 99 = false) :
  Calls Tryz.prog 29 #[wdVal p q r (.slice a l.length cap) safe, .int .i64 t, .int .i64 at_, .int .i64 c, .int .i64 v] w fun e w' => e = .returned (.tuple #[wdVal noPg noPg noPg (.slice none 0 0) 0, .int .i64 3]) ∧ Ext w w' := by
 have E0 := ((Ext.refl w).alloc (.cells (wdCells p q r (.slice a l.length cap) safe) 38)).alloc (.cells (wdCells noPg noPg noPg (.slice none 0 0) 0) 38)
 have B0 := (Blk.new w w.heap.size (wdCells p q r (.slice a l.length cap) safe) 38 rfl).alloc (.cells (wdCells noPg noPg noPg (.slice none 0 0) 0) 38)
 have N0 := Blk.new (w.alloc (.cells (wdCells p q r (.slice a l.length cap) safe) 38)) (w.heap.size + 1) (wdCells noPg noPg noPg (.slice none 0 0) 0) 38 (by simp)
 have H := worldError_any p q r a l.length cap l safe _ (h.recs.ext E0) h.le h.max
 rw [hz] at H
 clear hz
 have b0 := B0.cell
 go_enter Tryz.func29, Tryz.ntmps29
 go_wp2_with fail
 refine H.mono ?_
 rintro e w1 ⟨rfl, hE⟩
 have E := E0.trans hE
 have B := B0.ext hE
 have N := N0.ext hE
 clear H b0 B0 N0 E0 hE
 go_wp2_with fail
 refine (within_any t 1 9 _).mono ?_
 rintro e w2 ⟨rfl, rfl⟩
 rw [h0]
 go_wp2_with fail
 refine (within_any at_ 0 2 _).mono ?_
 rintro e w2 ⟨rfl, rfl⟩
 rw [h1]
 go_wp2_with fail
 refine (within_any c 0 2 _).mono ?_
 rintro e w2 ⟨rfl, rfl⟩
 rw [h2]
 go_wp2_with fail
 refine (within_any v 0 99 _).mono ?_
 rintro e w2 ⟨rfl, rfl⟩
 rw [h3]
 have n := N.cell
 have f := N.fr
 have E9 := put14_ext E (w.heap.size + 1) (by omega) (.int .i64 0) (.int .i64 0) (.int .i64 0) (.int .i64 0) (.int .i64 0) (.int .i64 0) (.int .i64 0) (.int .i64 0) (.int .i64 0) (.int .i64 0) (.int .i64 0) (.int .i64 0) (.slice none 0 0) (.int .i64 0)
 go_wp2_with fail
 refine bodyPost_ret (v := .tuple #[.agg (wdCells noPg noPg noPg (.slice none 0 0) 0), .int .i64 3]) (by simp [results, Tryz.results29, go_sem, n]) rfl ⟨rfl, ?_⟩
 exact E9
theorem writeTo_6 (p q r : Pg) (a : Option Addr) (cap : Nat) (l : List Rc) (safe : Int) (t at_ c v : Int) (w : World) (h : LogIn w a l.length cap l) (hz : worldErr p q r l safe = 0) (h0 : wi t 1 9 = true) (h1 : wi at_ 0 2 = true) (h2 : wi c 0 2 = true) (h3 : wi v 0 99 = true) (hl60 : l.length ≤ 60) (hRt : Right l) (hst : 1 < stateR l t) :
  Calls Tryz.prog 29 #[wdVal p q r (.slice a l.length cap) safe, .int .i64 t, .int .i64 at_, .int .i64 c, .int .i64 v] w fun e w' => e = .returned (.tuple #[wdVal noPg noPg noPg (.slice none 0 0) 0, .int .i64 6]) ∧ Ext w w' := by
 have E0 := ((Ext.refl w).alloc (.cells (wdCells p q r (.slice a l.length cap) safe) 38)).alloc (.cells (wdCells noPg noPg noPg (.slice none 0 0) 0) 38)
 have B0 := (Blk.new w w.heap.size (wdCells p q r (.slice a l.length cap) safe) 38 rfl).alloc (.cells (wdCells noPg noPg noPg (.slice none 0 0) 0) 38)
 have N0 := Blk.new (w.alloc (.cells (wdCells p q r (.slice a l.length cap) safe) 38)) (w.heap.size + 1) (wdCells noPg noPg noPg (.slice none 0 0) 0) 38 (by simp)
 have H := worldError_any p q r a l.length cap l safe _ (h.recs.ext E0) h.le h.max
 have HBk := (show Hid (Backs l) from right_backs l hRt)
 have HFt := (show Hid (Fits l) from right_fits l hRt)
 clear hRt
 rw [hz] at H
 clear hz
 have b0 := B0.cell
 go_enter Tryz.func29, Tryz.ntmps29
 go_wp2_with fail
 refine H.mono ?_
 rintro e w1 ⟨rfl, hE⟩
 have E := E0.trans hE
 have B := B0.ext hE
 have N := N0.ext hE
 clear H b0 B0 N0 E0 hE
 go_wp2_with fail
 refine (within_any t 1 9 _).mono ?_
 rintro e w2 ⟨rfl, rfl⟩
 rw [h0]
 go_wp2_with fail
 refine (within_any at_ 0 2 _).mono ?_
 rintro e w2 ⟨rfl, rfl⟩
 rw [h1]
 go_wp2_with fail
 refine (within_any c 0 2 _).mono ?_
 rintro e w2 ⟨rfl, rfl⟩
 rw [h2]
 go_wp2_with fail
 refine (within_any v 0 99 _).mono ?_
 rintro e w2 ⟨rfl, rfl⟩
 rw [h3]
 have b1 := B.cell
 go_wp2_with fail
 refine (state_any a l.length cap l t _ (h.recs.ext E) (by omega)).mono ?_
 rintro e w2 ⟨rfl, rfl⟩
 have n := N.cell
 have f := N.fr
 have E9 := put14_ext E (w.heap.size + 1) (by omega) (.int .i64 0) (.int .i64 0) (.int .i64 0) (.int .i64 0) (.int .i64 0) (.int .i64 0) (.int .i64 0) (.int .i64 0) (.int .i64 0) (.int .i64 0) (.int .i64 0) (.int .i64 0) (.slice none 0 0) (.int .i64 0)
 go_wp2_with fail
 refine bodyPost_ret (v := .tuple #[.agg (wdCells noPg noPg noPg (.slice none 0 0) 0), .int .i64 6]) (by simp [results, Tryz.results29, go_sem, n]) rfl ⟨rfl, ?_⟩
 exact E9
theorem writeTo_5 (p q r : Pg) (a : Option Addr) (cap : Nat) (l : List Rc) (safe : Int) (t at_ c v : Int) (w : World) (h : LogIn w a l.length cap l) (hz : worldErr p q r l safe = 0) (h0 : wi t 1 9 = true) (h1 : wi at_ 0 2 = true) (h2 : wi c 0 2 = true) (h3 : wi v 0 99 = true) (hl60 : l.length ≤ 60) (hRt : Right l) (hst : ¬ 1 < stateR l t) (htk : takenR l t at_ c = true) :
  Calls Tryz.prog 29 #[wdVal p q r (.slice a l.length cap) safe, .int .i64 t, .int .i64 at_, .int .i64 c, .int .i64 v] w fun e w' => e = .returned (.tuple #[wdVal noPg noPg noPg (.slice none 0 0) 0, .int .i64 5]) ∧ Ext w w' := by
 have E0 := ((Ext.refl w).alloc (.cells (wdCells p q r (.slice a l.length cap) safe) 38)).alloc (.cells (wdCells noPg noPg noPg (.slice none 0 0) 0) 38)
 have B0 := (Blk.new w w.heap.size (wdCells p q r (.slice a l.length cap) safe) 38 rfl).alloc (.cells (wdCells noPg noPg noPg (.slice none 0 0) 0) 38)
 have N0 := Blk.new (w.alloc (.cells (wdCells p q r (.slice a l.length cap) safe) 38)) (w.heap.size + 1) (wdCells noPg noPg noPg (.slice none 0 0) 0) 38 (by simp)
 have H := worldError_any p q r a l.length cap l safe _ (h.recs.ext E0) h.le h.max
 have HBk := (show Hid (Backs l) from right_backs l hRt)
 have HFt := (show Hid (Fits l) from right_fits l hRt)
 clear hRt
 rw [hz] at H
 clear hz
 have b0 := B0.cell
 go_enter Tryz.func29, Tryz.ntmps29
 go_wp2_with fail
 refine H.mono ?_
 rintro e w1 ⟨rfl, hE⟩
 have E := E0.trans hE
 have B := B0.ext hE
 have N := N0.ext hE
 clear H b0 B0 N0 E0 hE
 go_wp2_with fail
 refine (within_any t 1 9 _).mono ?_
 rintro e w2 ⟨rfl, rfl⟩
 rw [h0]
 go_wp2_with fail
 refine (within_any at_ 0 2 _).mono ?_
 rintro e w2 ⟨rfl, rfl⟩
 rw [h1]
 go_wp2_with fail
 refine (within_any c 0 2 _).mono ?_
 rintro e w2 ⟨rfl, rfl⟩
 rw [h2]
 go_wp2_with fail
 refine (within_any v 0 99 _).mono ?_
 rintro e w2 ⟨rfl, rfl⟩
 rw [h3]
 have b1 := B.cell
 go_wp2_with fail
 refine (state_any a l.length cap l t _ (h.recs.ext E) (by omega)).mono ?_
 rintro e w2 ⟨rfl, rfl⟩
 go_wp2_with fail
 refine (taken_any a l.length cap l t at_ c _ (h.recs.ext E) (by omega) HBk.out).mono ?_
 rintro e w3 ⟨rfl, hw⟩
 rw [htk]
 replace B := B.ext hw
 replace N := N.ext hw
 replace E := E.trans hw
 clear hw b1
 have n := N.cell
 have f := N.fr
 have E9 := put14_ext E (w.heap.size + 1) (by omega) (.int .i64 0) (.int .i64 0) (.int .i64 0) (.int .i64 0) (.int .i64 0) (.int .i64 0) (.int .i64 0) (.int .i64 0) (.int .i64 0) (.int .i64 0) (.int .i64 0) (.int .i64 0) (.slice none 0 0) (.int .i64 0)
 go_wp2_with fail
 refine bodyPost_ret (v := .tuple #[.agg (wdCells noPg noPg noPg (.slice none 0 0) 0), .int .i64 5]) (by simp [results, Tryz.results29, go_sem, n]) rfl ⟨rfl, ?_⟩
 exact E9
theorem writeTo_2 (p q r : Pg) (a : Option Addr) (cap : Nat) (l : List Rc) (safe : Int) (t at_ c v : Int) (w : World) (h : LogIn w a l.length cap l) (hz : worldErr p q r l safe = 0) (h0 : wi t 1 9 = true) (h1 : wi at_ 0 2 = true) (h2 : wi c 0 2 = true) (h3 : wi v 0 99 = true) (hl60 : l.length ≤ 60) (hRt : Right l) (hst : ¬ 1 < stateR l t) (htk : takenR l t at_ c = false) (p0 : 0 ≤ at_) (p2 : at_ ≤ 2) (q0 : 0 ≤ c) (q2 : c ≤ 2) (hfull : l.length = 60) :
  Calls Tryz.prog 29 #[wdVal p q r (.slice a l.length cap) safe, .int .i64 t, .int .i64 at_, .int .i64 c, .int .i64 v] w fun e w' => e = .returned (.tuple #[wdVal noPg noPg noPg (.slice none 0 0) 0, .int .i64 2]) ∧ Ext w w' := by
 have E0 := ((Ext.refl w).alloc (.cells (wdCells p q r (.slice a l.length cap) safe) 38)).alloc (.cells (wdCells noPg noPg noPg (.slice none 0 0) 0) 38)
 have B0 := (Blk.new w w.heap.size (wdCells p q r (.slice a l.length cap) safe) 38 rfl).alloc (.cells (wdCells noPg noPg noPg (.slice none 0 0) 0) 38)
 have N0 := Blk.new (w.alloc (.cells (wdCells p q r (.slice a l.length cap) safe) 38)) (w.heap.size + 1) (wdCells noPg noPg noPg (.slice none 0 0) 0) 38 (by simp)
 have H := worldError_any p q r a l.length cap l safe _ (h.recs.ext E0) h.le h.max
 have HFull := (show Hid (l.length = 60) from hfull)
 clear hfull
 have HBk := (show Hid (Backs l) from right_backs l hRt)
 have HFt := (show Hid (Fits l) from right_fits l hRt)
 clear hRt
 rw [hz] at H
 clear hz
 have b0 := B0.cell
 go_enter Tryz.func29, Tryz.ntmps29
 go_wp2_with fail
 refine H.mono ?_
 rintro e w1 ⟨rfl, hE⟩
 have E := E0.trans hE
 have B := B0.ext hE
 have N := N0.ext hE
 clear H b0 B0 N0 E0 hE
 go_wp2_with fail
 refine (within_any t 1 9 _).mono ?_
 rintro e w2 ⟨rfl, rfl⟩
 rw [h0]
 go_wp2_with fail
 refine (within_any at_ 0 2 _).mono ?_
 rintro e w2 ⟨rfl, rfl⟩
 rw [h1]
 go_wp2_with fail
 refine (within_any c 0 2 _).mono ?_
 rintro e w2 ⟨rfl, rfl⟩
 rw [h2]
 go_wp2_with fail
 refine (within_any v 0 99 _).mono ?_
 rintro e w2 ⟨rfl, rfl⟩
 rw [h3]
 have b1 := B.cell
 go_wp2_with fail
 refine (state_any a l.length cap l t _ (h.recs.ext E) (by omega)).mono ?_
 rintro e w2 ⟨rfl, rfl⟩
 go_wp2_with fail
 refine (taken_any a l.length cap l t at_ c _ (h.recs.ext E) (by omega) HBk.out).mono ?_
 rintro e w3 ⟨rfl, hw⟩
 rw [htk]
 replace B := B.ext hw
 replace N := N.ext hw
 replace E := E.trans hw
 clear hw b1
 clear htk hst h0 h1 h2 h3
 have b1 := B.cell
 go_wp2_with fail
 refine (ownWorld_any p q r a l.length cap l safe _ (h.ext E) hl60).mono ?_
 rintro e w4 ⟨a', cap', rfl, hw, hown⟩
 have E4 := (E.trans hw).alloc (.cells (wdCells p q r (.slice a' l.length cap') safe) 38)
 have B4 := (B.ext hw).alloc (.cells (wdCells p q r (.slice a' l.length cap') safe) 38)
 have N4 := (N.ext hw).alloc (.cells (wdCells p q r (.slice a' l.length cap') safe) 38)
 have D4 := Blk.new w4 w4.heap.size (wdCells p q r (.slice a' l.length cap') safe) 38 rfl
 have own4 := own_ext hown ((Ext.refl w4).alloc (.cells (wdCells p q r (.slice a' l.length cap') safe) 38))
 have hd4 : w3.heap.size ≤ w4.heap.size := hw.size
 have hn4 : w.heap.size + 1 < w3.heap.size := N.lt
 have hEs := E.size
 clear b1 hown hw
 have b4 := B4.cell
 obtain ⟨a0, a1, a2, a3, a4, a5, a6, a7, a8, a9, a10, a11, hps⟩ := list12 _ (pagesR_len l)
 obtain ⟨y0, y1, y2, y3, z, i1, i2, i3, hz⟩ := pick_old a0 a1 a2 a3 a4 a5 a6 a7 a8 a9 a10 a11 p0 p2 q0 q2
 rw [← hps] at hz
 have HPG := fun w' (e : Ext w w') => pages_any a l.length cap l w' (h.recs.ext e) (by omega) HFt.out
 rw [hps] at HPG
 rw [show ints [a0, a1, a2, a3, a4, a5, a6, a7, a8, a9, a10, a11] = #[.int .i64 a0, .int .i64 a1, .int .i64 a2, .int .i64 a3, .int .i64 a4, .int .i64 a5, .int .i64 a6, .int .i64 a7, .int .i64 a8, .int .i64 a9, .int .i64 a10, .int .i64 a11] from rfl] at HPG
 have HZ := (show Hid (z = (pagesR l).getD (at_.toNat * 4 + c.toNat) 0) from hz)
 clear hps hz
 go_wp2_with fail
 refine (HPG _ E4).mono ?_
 rintro e w5 ⟨rfl, hw⟩
 replace E4 := E4.trans hw
 replace N4 := N4.ext hw
 replace D4 := D4.ext hw
 replace own4 := own_ext own4 hw
 clear hw b4 HPG B4
 go_wp2_with fail
 refine (refPut_full w4.heap.size p q r a' cap' l safe ⟨1, t, 0, at_, c, z, v, 0⟩ _ D4 HFull.out).mono ?_
 rintro e w6 ⟨rfl, hw⟩
 replace E4 := E4.trans hw
 replace N4 := N4.ext hw
 have n := N4.cell
 have f := N4.fr
 have E9 := put14_ext E4 (w.heap.size + 1) (by omega) (.int .i64 0) (.int .i64 0) (.int .i64 0) (.int .i64 0) (.int .i64 0) (.int .i64 0) (.int .i64 0) (.int .i64 0) (.int .i64 0) (.int .i64 0) (.int .i64 0) (.int .i64 0) (.slice none 0 0) (.int .i64 0)
 go_wp2_with fail
 refine bodyPost_ret (v := .tuple #[.agg (wdCells noPg noPg noPg (.slice none 0 0) 0), .int .i64 2]) (by simp [results, Tryz.results29, go_sem, n]) rfl ⟨rfl, ?_⟩
 exact E9
theorem writeTo_0 (p q r : Pg) (a : Option Addr) (cap : Nat) (l : List Rc) (safe : Int) (t at_ c v : Int) (w : World) (h : LogIn w a l.length cap l) (hz : worldErr p q r l safe = 0) (h0 : wi t 1 9 = true) (h1 : wi at_ 0 2 = true) (h2 : wi c 0 2 = true) (h3 : wi v 0 99 = true) (hl60 : l.length ≤ 60) (hRt : Right l) (hst : ¬ 1 < stateR l t) (htk : takenR l t at_ c = false) (p0 : 0 ≤ at_) (p2 : at_ ≤ 2) (q0 : 0 ≤ c) (q2 : c ≤ 2) (hroom : l.length < 60) :
  Calls Tryz.prog 29 #[wdVal p q r (.slice a l.length cap) safe, .int .i64 t, .int .i64 at_, .int .i64 c, .int .i64 v] w fun e w' => ∃ a' cap', e = .returned (.tuple #[wdVal p q r (.slice a' (l ++ [writeRec l t at_ c v]).length cap') safe, .int .i64 0]) ∧ Ext w w' ∧ LogIn w' a' (l ++ [writeRec l t at_ c v]).length cap' (l ++ [writeRec l t at_ c v]) ∧ ∀ ad, a' = some ad → w.heap.size ≤ ad.block := by
 have E0 := ((Ext.refl w).alloc (.cells (wdCells p q r (.slice a l.length cap) safe) 38)).alloc (.cells (wdCells noPg noPg noPg (.slice none 0 0) 0) 38)
 have B0 := (Blk.new w w.heap.size (wdCells p q r (.slice a l.length cap) safe) 38 rfl).alloc (.cells (wdCells noPg noPg noPg (.slice none 0 0) 0) 38)
 have N0 := Blk.new (w.alloc (.cells (wdCells p q r (.slice a l.length cap) safe) 38)) (w.heap.size + 1) (wdCells noPg noPg noPg (.slice none 0 0) 0) 38 (by simp)
 have H := worldError_any p q r a l.length cap l safe _ (h.recs.ext E0) h.le h.max
 have HRec : Hid (∀ z, z = (pagesR l).getD (at_.toNat * 4 + c.toNat) 0 → l ++ [linkR l ⟨1, t, 0, at_, c, z, v, 0⟩] = l ++ [writeRec l t at_ c v]) := fun z hz => by rw [hz]; rfl
 have HL : Hid ((l ++ [writeRec l t at_ c v]).length = l.length + 1) := by simp [Hid]
 generalize l ++ [writeRec l t at_ c v] = l' at *
 have HBk := (show Hid (Backs l) from right_backs l hRt)
 have HFt := (show Hid (Fits l) from right_fits l hRt)
 clear hRt
 rw [hz] at H
 clear hz
 have b0 := B0.cell
 go_enter Tryz.func29, Tryz.ntmps29
 go_wp2_with fail
 refine H.mono ?_
 rintro e w1 ⟨rfl, hE⟩
 have E := E0.trans hE
 have B := B0.ext hE
 have N := N0.ext hE
 clear H b0 B0 N0 E0 hE
 go_wp2_with fail
 refine (within_any t 1 9 _).mono ?_
 rintro e w2 ⟨rfl, rfl⟩
 rw [h0]
 go_wp2_with fail
 refine (within_any at_ 0 2 _).mono ?_
 rintro e w2 ⟨rfl, rfl⟩
 rw [h1]
 go_wp2_with fail
 refine (within_any c 0 2 _).mono ?_
 rintro e w2 ⟨rfl, rfl⟩
 rw [h2]
 go_wp2_with fail
 refine (within_any v 0 99 _).mono ?_
 rintro e w2 ⟨rfl, rfl⟩
 rw [h3]
 have b1 := B.cell
 go_wp2_with fail
 refine (state_any a l.length cap l t _ (h.recs.ext E) (by omega)).mono ?_
 rintro e w2 ⟨rfl, rfl⟩
 go_wp2_with fail
 refine (taken_any a l.length cap l t at_ c _ (h.recs.ext E) (by omega) HBk.out).mono ?_
 rintro e w3 ⟨rfl, hw⟩
 rw [htk]
 replace B := B.ext hw
 replace N := N.ext hw
 replace E := E.trans hw
 clear hw b1
 clear htk hst h0 h1 h2 h3
 have b1 := B.cell
 go_wp2_with fail
 refine (ownWorld_any p q r a l.length cap l safe _ (h.ext E) hl60).mono ?_
 rintro e w4 ⟨a', cap', rfl, hw, hown⟩
 have E4 := (E.trans hw).alloc (.cells (wdCells p q r (.slice a' l.length cap') safe) 38)
 have B4 := (B.ext hw).alloc (.cells (wdCells p q r (.slice a' l.length cap') safe) 38)
 have N4 := (N.ext hw).alloc (.cells (wdCells p q r (.slice a' l.length cap') safe) 38)
 have D4 := Blk.new w4 w4.heap.size (wdCells p q r (.slice a' l.length cap') safe) 38 rfl
 have own4 := own_ext hown ((Ext.refl w4).alloc (.cells (wdCells p q r (.slice a' l.length cap') safe) 38))
 have hd4 : w3.heap.size ≤ w4.heap.size := hw.size
 have hn4 : w.heap.size + 1 < w3.heap.size := N.lt
 have hEs := E.size
 clear b1 hown hw
 have b4 := B4.cell
 obtain ⟨a0, a1, a2, a3, a4, a5, a6, a7, a8, a9, a10, a11, hps⟩ := list12 _ (pagesR_len l)
 obtain ⟨y0, y1, y2, y3, z, i1, i2, i3, hz⟩ := pick_old a0 a1 a2 a3 a4 a5 a6 a7 a8 a9 a10 a11 p0 p2 q0 q2
 rw [← hps] at hz
 have HPG := fun w' (e : Ext w w') => pages_any a l.length cap l w' (h.recs.ext e) (by omega) HFt.out
 rw [hps] at HPG
 rw [show ints [a0, a1, a2, a3, a4, a5, a6, a7, a8, a9, a10, a11] = #[.int .i64 a0, .int .i64 a1, .int .i64 a2, .int .i64 a3, .int .i64 a4, .int .i64 a5, .int .i64 a6, .int .i64 a7, .int .i64 a8, .int .i64 a9, .int .i64 a10, .int .i64 a11] from rfl] at HPG
 have HZ := (show Hid (z = (pagesR l).getD (at_.toNat * 4 + c.toNat) 0) from hz)
 clear hps hz
 go_wp2_with fail
 refine (HPG _ E4).mono ?_
 rintro e w5 ⟨rfl, hw⟩
 replace E4 := E4.trans hw
 replace N4 := N4.ext hw
 replace D4 := D4.ext hw
 replace own4 := own_ext own4 hw
 clear hw b4 HPG B4
 go_wp2_with fail
 refine (refPut_any w3.heap.size w4.heap.size p q r a' cap' l safe ⟨1, t, 0, at_, c, z, v, 0⟩ _ D4 own4 (by omega) hd4).mono ?_
 rintro e w6 ⟨rfl, hbel, a6, cap6, D6, own6⟩
 have N6 : Blk w6 (w.heap.size + 1) (wdCells noPg noPg noPg (.slice none 0 0) 0) 38 := by
  have := hbel.block (w.heap.size + 1) hn4
  unfold Blk; rw [this]; exact N4
 have E6 : Ext w w6 := Below.trans E4 (Below.mono hbel hEs)
 rw [HRec.out z HZ.out] at own6
 have E7 := put14_ext E6 (w.heap.size + 1) (by omega) (.int .i64 p.c0) (.int .i64 p.c1) (.int .i64 p.c2) (.int .i64 p.last) (.int .i64 q.c0) (.int .i64 q.c1) (.int .i64 q.c2) (.int .i64 q.last) (.int .i64 r.c0) (.int .i64 r.c1) (.int .i64 r.c2) (.int .i64 r.last) (.slice a6 (l.length + 1) cap6) (.int .i64 safe)
 have G7 := put14_gr w6 (w.heap.size + 1) (.int .i64 p.c0) (.int .i64 p.c1) (.int .i64 p.c2) (.int .i64 p.last) (.int .i64 q.c0) (.int .i64 q.c1) (.int .i64 q.c2) (.int .i64 q.last) (.int .i64 r.c0) (.int .i64 r.c1) (.int .i64 r.c2) (.int .i64 r.last) (.slice a6 (l.length + 1) cap6) (.int .i64 safe)
 have own7 := own_gr own6 G7 (fun k hk e => by injection e with e; have := own_from own6 k hk; omega)
 have HIn := (show Hid _ from own_in2 own7 (by have := HL.out; omega))
 have HFrom : Hid (∀ ad, a6 = some ad → w.heap.size ≤ ad.block) := fun ad e => by have := own_from own6 ad.block (by rw [e]; rfl); omega
 have dd := D6.cell
 have nn := N6.cell
 have ff := N6.fr
 have hne : w4.heap.size ≠ w.heap.size + 1 := by omega
 clear hbel own4 D4 N4 E4 own6 G7 own7 HRec HZ
 go_wp2_with fail
 refine bodyPost_ret (v := .tuple #[.agg (wdCells p q r (.slice a6 (l.length + 1) cap6) safe), .int .i64 0]) (by simp [results, Tryz.results29, go_sem, nn]) rfl ⟨a6, cap6, by rw [HL.out], ?_, ?_, HFrom.out⟩
 ·exact E7
 ·exact HIn.out
theorem writeTo_any (p q r : Pg) (a : Option Addr) (len cap : Nat) (l : List Rc) (safe t at_ c v : Int) (w : World) (h : LogIn w a len cap l) :
  Calls Tryz.prog 29 #[wdVal p q r (.slice a len cap) safe, .int .i64 t, .int .i64 at_, .int .i64 c, .int .i64 v] w fun e w' => Ext w w' ∧ WorkAns w.heap.size w' e p q r (errOf (worldErr p q r l safe) (writeErr l t at_ c v)) (l ++ [writeRec l t at_ c v]) safe := by
 obtain rfl := h.recs.len
 have nope : ∀ (k x : Int), x = k → k ≠ 0 → Calls Tryz.prog 29 #[wdVal p q r (.slice a l.length cap) safe, .int .i64 t, .int .i64 at_, .int .i64 c, .int .i64 v] w (fun e w' => e = .returned (.tuple #[wdVal noPg noPg noPg (.slice none 0 0) 0, .int .i64 k]) ∧ Ext w w') →
   Calls Tryz.prog 29 #[wdVal p q r (.slice a l.length cap) safe, .int .i64 t, .int .i64 at_, .int .i64 c, .int .i64 v] w fun e w' => Ext w w' ∧ WorkAns w.heap.size w' e p q r x (l ++ [writeRec l t at_ c v]) safe := fun k x hx hk H => by
  subst hx
  exact H.mono fun e w' ⟨h1, h2⟩ => ⟨h2, Or.inr ⟨hk, h1⟩⟩
 by_cases hz : worldErr p q r l safe = 0
 ·obtain ⟨hl60, hRt⟩ := logErr_zero (worldErr_zero hz).1
  rw [errOf_0 hz]
  have HNB : noneB t at_ c v = (!wi t 1 9 || (!wi at_ 0 2 || (!wi c 0 2 || !wi v 0 99))) := by unfold noneB; rw [out_one, out_one, out_one, out_one]
  cases h0 : wi t 1 9
  ·exact nope 3 _ (writeErr_3 (by rw [HNB, h0]; rfl)) (by decide) (writeTo_n0 p q r a cap l safe t at_ c v w h hz h0)
  cases h1 : wi at_ 0 2
  ·exact nope 3 _ (writeErr_3 (by rw [HNB, h0, h1]; rfl)) (by decide) (writeTo_n1 p q r a cap l safe t at_ c v w h hz h0 h1)
  cases h2 : wi c 0 2
  ·exact nope 3 _ (writeErr_3 (by rw [HNB, h0, h1, h2]; rfl)) (by decide) (writeTo_n2 p q r a cap l safe t at_ c v w h hz h0 h1 h2)
  cases h3 : wi v 0 99
  ·exact nope 3 _ (writeErr_3 (by rw [HNB, h0, h1, h2, h3]; rfl)) (by decide) (writeTo_n3 p q r a cap l safe t at_ c v w h hz h0 h1 h2 h3)
  have hn : noneB t at_ c v = false := by rw [HNB, h0, h1, h2, h3]; rfl
  obtain ⟨_, ⟨p0, p2⟩, ⟨q0, q2⟩, _⟩ := noneB_false hn
  by_cases hst : 1 < stateR l t
  ·exact nope 6 _ (writeErr_6 hn hst) (by decide) (writeTo_6 p q r a cap l safe t at_ c v w h hz h0 h1 h2 h3 hl60 hRt hst)
  cases htk : takenR l t at_ c
  ·by_cases hfull : l.length = 60
   ·exact nope 2 _ (writeErr_2 hn hst htk (by omega)) (by decide) (writeTo_2 p q r a cap l safe t at_ c v w h hz h0 h1 h2 h3 hl60 hRt hst htk p0 p2 q0 q2 hfull)
   ·rw [writeErr_0 hn hst htk (by omega)]
    exact (writeTo_0 p q r a cap l safe t at_ c v w h hz h0 h1 h2 h3 hl60 hRt hst htk p0 p2 q0 q2 (by omega)).mono fun e w' ⟨a', cap', h1, h2, h3, h4⟩ => ⟨h2, Or.inl ⟨rfl, a', cap', h1, h3, h4⟩⟩
  ·exact nope 5 _ (writeErr_5 hn hst htk) (by decide) (writeTo_5 p q r a cap l safe t at_ c v w h hz h0 h1 h2 h3 hl60 hRt hst htk)
 ·exact nope _ _ (errOf_1 hz) hz (writeTo_w p q r a cap l safe t at_ c v w h hz)
end Go.Proofs.YtibfgbmhmdggmaaGreatDoor.B
