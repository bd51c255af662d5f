/- The contracts of the reference's SyncOf and FlushOf. -/
import Derived.Test.YtmccggfegllfnaaFlush2
import Derived.Test.YtmccggfegllfnaaWork6
namespace Go.Proofs.Ytmccggfegllfnaa.B
set_option maxRecDepth 100000
open Go.ChangeShapes Go.WideShapes Go.ChangeAt Go.RowKit

set_option maxHeartbeats 8000000 in
theorem syncOf_w (p q r : Pg) (a : Option Addr) (cap : Nat) (l : List Rc) (safe : Int) (n : Int) (w : World) (h : LogIn w a l.length cap l) (hz : worldErr p q r l safe ≠ 0) :
    Calls Try.prog 26 #[wdVal p q r (.slice a l.length cap) safe, .int .i64 n] w fun e w' => e = .returned (.tuple #[wdVal noPg noPg noPg (.slice none 0 0) 0, .int .i64 (worldErr p q r l safe)]) ∧ Ext w w' := by
  have E0 := ((Ext.refl w).alloc (.cells (wdCells p q r (.slice a l.length cap) safe) 28)).alloc (.cells (wdCells noPg noPg noPg (.slice none 0 0) 0) 28)
  have B0 := (Blk.new w w.heap.size (wdCells p q r (.slice a l.length cap) safe) 28 rfl).alloc (.cells (wdCells noPg noPg noPg (.slice none 0 0) 0) 28)
  have N0 := Blk.new (w.alloc (.cells (wdCells p q r (.slice a l.length cap) safe) 28)) (w.heap.size + 1) (wdCells noPg noPg noPg (.slice none 0 0) 0) 28 (by simp)
  have H := worldError_any p q r a l.length cap l safe _ (h.recs.ext E0) h.le h.max
  have hb : (worldErr p q r l safe != 0) = true := by simpa using hz
  generalize worldErr p q r l safe = we at *
  clear hz
  have b0 := B0.cell
  go_enter Try.func26, Try.ntmps26
  go_wp2_with fail
  refine H.mono ?_
  rintro e w1 ⟨rfl, hE⟩
  have E := E0.trans hE
  have B := B0.ext hE
  have N := N0.ext hE
  clear H b0 B0 N0 E0 hE
  have n_ := N.cell
  have f_ := N.fr
  have E9 := put14_ext E (w.heap.size + 1) (by omega) (.int .i64 0) (.int .i64 0) (.int .i64 0) (.int .i64 0) (.int .i64 0) (.int .i64 0) (.int .i64 0) (.int .i64 0) (.int .i64 0) (.int .i64 0) (.int .i64 0) (.int .i64 0) (.slice none 0 0) (.int .i64 0)
  go_wp2_with fail
  refine bodyPost_ret (v := .tuple #[.agg (wdCells noPg noPg noPg (.slice none 0 0) 0), .int .i64 we]) (by simp [results, Try.results26, go_sem, n_]) rfl ⟨rfl, ?_⟩
  exact E9
set_option maxHeartbeats 8000000 in
theorem flushOf_w (p q r : Pg) (a : Option Addr) (cap : Nat) (l : List Rc) (safe : Int) (x : Int) (w : World) (h : LogIn w a l.length cap l) (hz : worldErr p q r l safe ≠ 0) :
    Calls Try.prog 27 #[wdVal p q r (.slice a l.length cap) safe, .int .i64 x] w fun e w' => e = .returned (.tuple #[wdVal noPg noPg noPg (.slice none 0 0) 0, .int .i64 (worldErr p q r l safe)]) ∧ Ext w w' := by
  have E0 := ((Ext.refl w).alloc (.cells (wdCells p q r (.slice a l.length cap) safe) 28)).alloc (.cells (wdCells noPg noPg noPg (.slice none 0 0) 0) 28)
  have B0 := (Blk.new w w.heap.size (wdCells p q r (.slice a l.length cap) safe) 28 rfl).alloc (.cells (wdCells noPg noPg noPg (.slice none 0 0) 0) 28)
  have N0 := Blk.new (w.alloc (.cells (wdCells p q r (.slice a l.length cap) safe) 28)) (w.heap.size + 1) (wdCells noPg noPg noPg (.slice none 0 0) 0) 28 (by simp)
  have H := worldError_any p q r a l.length cap l safe _ (h.recs.ext E0) h.le h.max
  have hb : (worldErr p q r l safe != 0) = true := by simpa using hz
  generalize worldErr p q r l safe = we at *
  clear hz
  have b0 := B0.cell
  go_enter Try.func27, Try.ntmps27
  go_wp2_with fail
  refine H.mono ?_
  rintro e w1 ⟨rfl, hE⟩
  have E := E0.trans hE
  have B := B0.ext hE
  have N := N0.ext hE
  clear H b0 B0 N0 E0 hE
  have n_ := N.cell
  have f_ := N.fr
  have E9 := put14_ext E (w.heap.size + 1) (by omega) (.int .i64 0) (.int .i64 0) (.int .i64 0) (.int .i64 0) (.int .i64 0) (.int .i64 0) (.int .i64 0) (.int .i64 0) (.int .i64 0) (.int .i64 0) (.int .i64 0) (.int .i64 0) (.slice none 0 0) (.int .i64 0)
  go_wp2_with fail
  refine bodyPost_ret (v := .tuple #[.agg (wdCells noPg noPg noPg (.slice none 0 0) 0), .int .i64 we]) (by simp [results, Try.results27, go_sem, n_]) rfl ⟨rfl, ?_⟩
  exact E9
set_option maxHeartbeats 8000000 in
theorem syncOf_3 (p q r : Pg) (a : Option Addr) (cap : Nat) (l : List Rc) (safe : Int) (n : Int) (w : World) (h : LogIn w a l.length cap l) (hz : worldErr p q r l safe = 0) (hn : wi n 0 (l.length : Nat) = false) :
    Calls Try.prog 26 #[wdVal p q r (.slice a l.length cap) safe, .int .i64 n] w fun e w' => e = .returned (.tuple #[wdVal noPg noPg noPg (.slice none 0 0) 0, .int .i64 3]) ∧ Ext w w' := by
  have E0 := ((Ext.refl w).alloc (.cells (wdCells p q r (.slice a l.length cap) safe) 28)).alloc (.cells (wdCells noPg noPg noPg (.slice none 0 0) 0) 28)
  have B0 := (Blk.new w w.heap.size (wdCells p q r (.slice a l.length cap) safe) 28 rfl).alloc (.cells (wdCells noPg noPg noPg (.slice none 0 0) 0) 28)
  have N0 := Blk.new (w.alloc (.cells (wdCells p q r (.slice a l.length cap) safe) 28)) (w.heap.size + 1) (wdCells noPg noPg noPg (.slice none 0 0) 0) 28 (by simp)
  have H := worldError_any p q r a l.length cap l safe _ (h.recs.ext E0) h.le h.max
  rw [hz] at H
  clear hz
  have b0 := B0.cell
  go_enter Try.func26, Try.ntmps26
  go_wp2_with fail
  refine H.mono ?_
  rintro e w1 ⟨rfl, hE⟩
  have E := E0.trans hE
  have B := B0.ext hE
  have N := N0.ext hE
  clear H b0 B0 N0 E0 hE
  have b1 := B.cell
  go_wp2_with fail
  refine (within_any n 0 (l.length : Nat) _).mono ?_
  rintro e w2 ⟨rfl, rfl⟩
  rw [hn]
  have n_ := N.cell
  have f_ := N.fr
  have E9 := put14_ext E (w.heap.size + 1) (by omega) (.int .i64 0) (.int .i64 0) (.int .i64 0) (.int .i64 0) (.int .i64 0) (.int .i64 0) (.int .i64 0) (.int .i64 0) (.int .i64 0) (.int .i64 0) (.int .i64 0) (.int .i64 0) (.slice none 0 0) (.int .i64 0)
  go_wp2_with fail
  refine bodyPost_ret (v := .tuple #[.agg (wdCells noPg noPg noPg (.slice none 0 0) 0), .int .i64 3]) (by simp [results, Try.results26, go_sem, n_]) rfl ⟨rfl, ?_⟩
  exact E9
set_option maxHeartbeats 8000000 in
theorem flushOf_3 (p q r : Pg) (a : Option Addr) (cap : Nat) (l : List Rc) (safe : Int) (x : Int) (w : World) (h : LogIn w a l.length cap l) (hz : worldErr p q r l safe = 0) (hn : wi x 0 2 = false) :
    Calls Try.prog 27 #[wdVal p q r (.slice a l.length cap) safe, .int .i64 x] w fun e w' => e = .returned (.tuple #[wdVal noPg noPg noPg (.slice none 0 0) 0, .int .i64 3]) ∧ Ext w w' := by
  have E0 := ((Ext.refl w).alloc (.cells (wdCells p q r (.slice a l.length cap) safe) 28)).alloc (.cells (wdCells noPg noPg noPg (.slice none 0 0) 0) 28)
  have B0 := (Blk.new w w.heap.size (wdCells p q r (.slice a l.length cap) safe) 28 rfl).alloc (.cells (wdCells noPg noPg noPg (.slice none 0 0) 0) 28)
  have N0 := Blk.new (w.alloc (.cells (wdCells p q r (.slice a l.length cap) safe) 28)) (w.heap.size + 1) (wdCells noPg noPg noPg (.slice none 0 0) 0) 28 (by simp)
  have H := worldError_any p q r a l.length cap l safe _ (h.recs.ext E0) h.le h.max
  rw [hz] at H
  clear hz
  have b0 := B0.cell
  go_enter Try.func27, Try.ntmps27
  go_wp2_with fail
  refine H.mono ?_
  rintro e w1 ⟨rfl, hE⟩
  have E := E0.trans hE
  have B := B0.ext hE
  have N := N0.ext hE
  clear H b0 B0 N0 E0 hE
  go_wp2_with fail
  refine (within_any x 0 2 _).mono ?_
  rintro e w2 ⟨rfl, rfl⟩
  rw [hn]
  have n_ := N.cell
  have f_ := N.fr
  have E9 := put14_ext E (w.heap.size + 1) (by omega) (.int .i64 0) (.int .i64 0) (.int .i64 0) (.int .i64 0) (.int .i64 0) (.int .i64 0) (.int .i64 0) (.int .i64 0) (.int .i64 0) (.int .i64 0) (.int .i64 0) (.int .i64 0) (.slice none 0 0) (.int .i64 0)
  go_wp2_with fail
  refine bodyPost_ret (v := .tuple #[.agg (wdCells noPg noPg noPg (.slice none 0 0) 0), .int .i64 3]) (by simp [results, Try.results27, go_sem, n_]) rfl ⟨rfl, ?_⟩
  exact E9
set_option maxHeartbeats 8000000 in
theorem syncOf_0a (p q r : Pg) (a : Option Addr) (cap : Nat) (l : List Rc) (safe : Int) (n : Int) (w : World) (h : LogIn w a l.length cap l) (hz : worldErr p q r l safe = 0) (hn : wi n 0 (l.length : Nat) = true) (hl60 : l.length ≤ 60) (hlt : safe < n) :
    Calls Try.prog 26 #[wdVal p q r (.slice a l.length cap) safe, .int .i64 n] w fun e w' => ∃ a' cap', e = .returned (.tuple #[wdVal p q r (.slice a' l.length cap') (n), .int .i64 0]) ∧ Ext w w' ∧ LogIn w' a' l.length cap' l ∧ ∀ ad, a' = some ad → w.heap.size ≤ ad.block := by
  have E0 := ((Ext.refl w).alloc (.cells (wdCells p q r (.slice a l.length cap) safe) 28)).alloc (.cells (wdCells noPg noPg noPg (.slice none 0 0) 0) 28)
  have B0 := (Blk.new w w.heap.size (wdCells p q r (.slice a l.length cap) safe) 28 rfl).alloc (.cells (wdCells noPg noPg noPg (.slice none 0 0) 0) 28)
  have N0 := Blk.new (w.alloc (.cells (wdCells p q r (.slice a l.length cap) safe) 28)) (w.heap.size + 1) (wdCells noPg noPg noPg (.slice none 0 0) 0) 28 (by simp)
  have H := worldError_any p q r a l.length cap l safe _ (h.recs.ext E0) h.le h.max
  rw [hz] at H
  clear hz
  have b0 := B0.cell
  go_enter Try.func26, Try.ntmps26
  go_wp2_with fail
  refine H.mono ?_
  rintro e w1 ⟨rfl, hE⟩
  have E := E0.trans hE
  have B := B0.ext hE
  have N := N0.ext hE
  clear H b0 B0 N0 E0 hE
  have b1 := B.cell
  go_wp2_with fail
  refine (within_any n 0 (l.length : Nat) _).mono ?_
  rintro e w2 ⟨rfl, rfl⟩
  rw [hn]
  go_wp2_with fail
  refine (ownWorld_any p q r a l.length cap l safe _ (h.ext E) hl60).mono ?_
  rintro e w4 ⟨a', cap', rfl, hw, hown⟩
  have hd4 : w2.heap.size ≤ w4.heap.size := hw.size
  have hn4 : w.heap.size + 1 < w2.heap.size := N.lt
  have hb4 : w.heap.size < w2.heap.size := B.lt
  have hEs := E.size
  have E6 := (E.trans hw).alloc (.cells (wdCells p q r (.slice a' l.length cap') n) 28)
  have B6 := (B.ext hw).alloc (.cells (wdCells p q r (.slice a' l.length cap') n) 28)
  have N6 := (N.ext hw).alloc (.cells (wdCells p q r (.slice a' l.length cap') n) 28)
  have D6 := Blk.new w4 w4.heap.size (wdCells p q r (.slice a' l.length cap') n) 28 rfl
  have own6 := own_ext hown ((Ext.refl w4).alloc (.cells (wdCells p q r (.slice a' l.length cap') n) 28))
  have b4 := ((B.ext hw).alloc (.cells (wdCells p q r (.slice a' l.length cap') safe) 28)).cell
  clear b1 hw hown
  have E9 := put14_ext E6 (w.heap.size + 1) (by omega) (.int .i64 p.c0) (.int .i64 p.c1) (.int .i64 p.c2) (.int .i64 p.last) (.int .i64 q.c0) (.int .i64 q.c1) (.int .i64 q.c2) (.int .i64 q.last) (.int .i64 r.c0) (.int .i64 r.c1) (.int .i64 r.c2) (.int .i64 r.last) (.slice a' l.length cap') (.int .i64 n)
  have G9 := put14_gr (w4.alloc (.cells (wdCells p q r (.slice a' l.length cap') n) 28)) (w.heap.size + 1) (.int .i64 p.c0) (.int .i64 p.c1) (.int .i64 p.c2) (.int .i64 p.last) (.int .i64 q.c0) (.int .i64 q.c1) (.int .i64 q.c2) (.int .i64 q.last) (.int .i64 r.c0) (.int .i64 r.c1) (.int .i64 r.c2) (.int .i64 r.last) (.slice a' l.length cap') (.int .i64 n)
  have own9 := own_gr own6 G9 (fun k hk e => by injection e with e; have := own_from own6 k hk; omega)
  have HIn := (show Hid _ from own_in2 own9 hl60)
  have HFrom : Hid (∀ ad, a' = some ad → w.heap.size ≤ ad.block) := fun ad e => by have := own_from own6 ad.block (by rw [e]; rfl); omega
  have dd := D6.cell
  have nn := N6.cell
  have ff := N6.fr
  have hne : w4.heap.size ≠ w.heap.size + 1 := by omega
  clear own9 G9
  go_wp2_with fail
  refine bodyPost_ret (v := .tuple #[.agg (wdCells p q r (.slice a' l.length cap') n), .int .i64 0]) (by simp [results, Try.results26, go_sem, nn]) rfl ⟨a', cap', rfl, ?_, ?_, HFrom.out⟩
  · exact E9
  · exact HIn.out
set_option maxHeartbeats 8000000 in
theorem syncOf_0b (p q r : Pg) (a : Option Addr) (cap : Nat) (l : List Rc) (safe : Int) (n : Int) (w : World) (h : LogIn w a l.length cap l) (hz : worldErr p q r l safe = 0) (hn : wi n 0 (l.length : Nat) = true) (hl60 : l.length ≤ 60) (hlt : ¬ safe < n) :
    Calls Try.prog 26 #[wdVal p q r (.slice a l.length cap) safe, .int .i64 n] w fun e w' => ∃ a' cap', e = .returned (.tuple #[wdVal p q r (.slice a' l.length cap') (safe), .int .i64 0]) ∧ Ext w w' ∧ LogIn w' a' l.length cap' l ∧ ∀ ad, a' = some ad → w.heap.size ≤ ad.block := by
  have E0 := ((Ext.refl w).alloc (.cells (wdCells p q r (.slice a l.length cap) safe) 28)).alloc (.cells (wdCells noPg noPg noPg (.slice none 0 0) 0) 28)
  have B0 := (Blk.new w w.heap.size (wdCells p q r (.slice a l.length cap) safe) 28 rfl).alloc (.cells (wdCells noPg noPg noPg (.slice none 0 0) 0) 28)
  have N0 := Blk.new (w.alloc (.cells (wdCells p q r (.slice a l.length cap) safe) 28)) (w.heap.size + 1) (wdCells noPg noPg noPg (.slice none 0 0) 0) 28 (by simp)
  have H := worldError_any p q r a l.length cap l safe _ (h.recs.ext E0) h.le h.max
  rw [hz] at H
  clear hz
  have b0 := B0.cell
  go_enter Try.func26, Try.ntmps26
  go_wp2_with fail
  refine H.mono ?_
  rintro e w1 ⟨rfl, hE⟩
  have E := E0.trans hE
  have B := B0.ext hE
  have N := N0.ext hE
  clear H b0 B0 N0 E0 hE
  have b1 := B.cell
  go_wp2_with fail
  refine (within_any n 0 (l.length : Nat) _).mono ?_
  rintro e w2 ⟨rfl, rfl⟩
  rw [hn]
  go_wp2_with fail
  refine (ownWorld_any p q r a l.length cap l safe _ (h.ext E) hl60).mono ?_
  rintro e w4 ⟨a', cap', rfl, hw, hown⟩
  have hd4 : w2.heap.size ≤ w4.heap.size := hw.size
  have hn4 : w.heap.size + 1 < w2.heap.size := N.lt
  have hb4 : w.heap.size < w2.heap.size := B.lt
  have hEs := E.size
  have E6 := (E.trans hw).alloc (.cells (wdCells p q r (.slice a' l.length cap') safe) 28)
  have B6 := (B.ext hw).alloc (.cells (wdCells p q r (.slice a' l.length cap') safe) 28)
  have N6 := (N.ext hw).alloc (.cells (wdCells p q r (.slice a' l.length cap') safe) 28)
  have D6 := Blk.new w4 w4.heap.size (wdCells p q r (.slice a' l.length cap') safe) 28 rfl
  have own6 := own_ext hown ((Ext.refl w4).alloc (.cells (wdCells p q r (.slice a' l.length cap') safe) 28))
  have b4 := ((B.ext hw).alloc (.cells (wdCells p q r (.slice a' l.length cap') safe) 28)).cell
  clear b1 hw hown
  have E9 := put14_ext E6 (w.heap.size + 1) (by omega) (.int .i64 p.c0) (.int .i64 p.c1) (.int .i64 p.c2) (.int .i64 p.last) (.int .i64 q.c0) (.int .i64 q.c1) (.int .i64 q.c2) (.int .i64 q.last) (.int .i64 r.c0) (.int .i64 r.c1) (.int .i64 r.c2) (.int .i64 r.last) (.slice a' l.length cap') (.int .i64 safe)
  have G9 := put14_gr (w4.alloc (.cells (wdCells p q r (.slice a' l.length cap') safe) 28)) (w.heap.size + 1) (.int .i64 p.c0) (.int .i64 p.c1) (.int .i64 p.c2) (.int .i64 p.last) (.int .i64 q.c0) (.int .i64 q.c1) (.int .i64 q.c2) (.int .i64 q.last) (.int .i64 r.c0) (.int .i64 r.c1) (.int .i64 r.c2) (.int .i64 r.last) (.slice a' l.length cap') (.int .i64 safe)
  have own9 := own_gr own6 G9 (fun k hk e => by injection e with e; have := own_from own6 k hk; omega)
  have HIn := (show Hid _ from own_in2 own9 hl60)
  have HFrom : Hid (∀ ad, a' = some ad → w.heap.size ≤ ad.block) := fun ad e => by have := own_from own6 ad.block (by rw [e]; rfl); omega
  have dd := D6.cell
  have nn := N6.cell
  have ff := N6.fr
  have hne : w4.heap.size ≠ w.heap.size + 1 := by omega
  clear own9 G9
  go_wp2_with fail
  refine bodyPost_ret (v := .tuple #[.agg (wdCells p q r (.slice a' l.length cap') safe), .int .i64 0]) (by simp [results, Try.results26, go_sem, nn]) rfl ⟨a', cap', rfl, ?_, ?_, HFrom.out⟩
  · exact E9
  · exact HIn.out
end Go.Proofs.Ytmccggfegllfnaa.B
