/- The contract of the reference's FlushOf where page 0 is laid. · The contract of the reference's FlushOf where page 1 is laid. -/
import Derived.Test.YtibfgbmhmdggmaaGreatDoorFlushB
namespace Go.Proofs.YtibfgbmhmdggmaaGreatDoor.B
set_option maxHeartbeats 32000000
set_option maxRecDepth 100000
open Go.ChangeShapes Go.WideShapes Go.ChangeAt Go.RowKit
theorem flushOf_0a (p q r : Pg) (a : Option Addr) (cap : Nat) (l : List Rc) (safe : Int) (g : Pg) (w : World) (h : LogIn w a l.length cap l) (hz : worldErr p q r l safe = 0) (hl60 : l.length ≤ 60) (hfit : Fits l) (hg : pgAt (pagesR l) 0 = g) (hlt : safe < g.last) :
  Calls Tryz.prog 33 #[wdVal p q r (.slice a l.length cap) safe, .int .i64 0] w fun e w' => ∃ a' cap', e = .returned (.tuple #[wdVal g q r (.slice a' l.length cap') (g.last), .int .i64 0]) ∧ Ext w w' ∧ LogIn w' a' l.length cap' l ∧ ∀ ad, a' = some ad → w.heap.size ≤ ad.block := by
 have E0 := ((Ext.refl w).alloc (.cells (wdCells p q r (.slice a l.length cap) safe) 38)).alloc (.cells (wdCells noPg noPg noPg (.slice none 0 0) 0) 38)
 have B0 := (Blk.new w w.heap.size (wdCells p q r (.slice a l.length cap) safe) 38 rfl).alloc (.cells (wdCells noPg noPg noPg (.slice none 0 0) 0) 38)
 have N0 := Blk.new (w.alloc (.cells (wdCells p q r (.slice a l.length cap) safe) 38)) (w.heap.size + 1) (wdCells noPg noPg noPg (.slice none 0 0) 0) 38 (by simp)
 have H := worldError_any p q r a l.length cap l safe _ (h.recs.ext E0) h.le h.max
 rw [hz] at H
 clear hz
 have HIx : Hid (∀ w, (Instr.index 35 (.agg (ints (pagesR l))) (.int .i64 0)).run Tryz.prog w = .ok (.agg #[.int .i64 g.c0, .int .i64 g.c1, .int .i64 g.c2, .int .i64 g.last]) w) := fun w => by
  rw [index_pages _ 0 (by decide) (by decide), ← hg]
  obtain ⟨y0, y1, y2, y3, y4, y5, y6, y7, y8, y9, y10, y11, hps⟩ := list12 _ (pagesR_len l)
  rw [hps]
  rfl
 clear hg
 have b0 := B0.cell
 go_enter Tryz.func33, Tryz.ntmps33
 go_wp2_with fail
 refine H.mono ?_
 rintro e w1 ⟨rfl, hE⟩
 have E := E0.trans hE
 have B := B0.ext hE
 have N := N0.ext hE
 clear H b0 B0 N0 E0 hE
 go_wp2_with fail
 refine (within_any 0 0 2 _).mono ?_
 rintro e w2 ⟨rfl, rfl⟩
 rw [show wi 0 0 2 = true from rfl]
 have b1 := B.cell
 go_wp2_with fail
 refine (ownWorld_any p q r a l.length cap l safe _ (h.ext E) hl60).mono ?_
 rintro e w4 ⟨a', cap', rfl, hw, hown⟩
 have hd4 : w2.heap.size ≤ w4.heap.size := hw.size
 have hn4 : w.heap.size + 1 < w2.heap.size := N.lt
 have hb4 : w.heap.size < w2.heap.size := B.lt
 have hEs := E.size
 have E6 := (E.trans hw).alloc (.cells (wdCells p q r (.slice a' l.length cap') safe) 38)
 have B6 := (B.ext hw).alloc (.cells (wdCells p q r (.slice a' l.length cap') safe) 38)
 have N6 := (N.ext hw).alloc (.cells (wdCells p q r (.slice a' l.length cap') safe) 38)
 have D6 := Blk.new w4 w4.heap.size (wdCells p q r (.slice a' l.length cap') safe) 38 rfl
 have own6 := own_ext hown ((Ext.refl w4).alloc (.cells (wdCells p q r (.slice a' l.length cap') safe) 38))
 have b6 := B6.cell
 clear b1 hw hown
 go_wp2_with fail
 refine (pages_any a l.length cap l _ (h.recs.ext E6) (by omega) hfit).mono ?_
 rintro e w6 ⟨rfl, hE⟩
 replace E6 := E6.trans hE
 replace B6 := B6.ext hE
 replace N6 := N6.ext hE
 replace D6 := D6.ext hE
 replace own6 := own_ext own6 hE
 clear hE b6
 have d6 := D6.cell
 have f6 := D6.fr
 have hix := HIx.out
 go_wp2_with fail
 clear hix HIx d6 f6
 have h40 : w4.heap.size ≠ w.heap.size := by omega
 have hbz : w.heap.size ≠ w4.heap.size := by omega
 have D7 : Blk ((((w6.setCell ⟨w4.heap.size, 0, none⟩ (.int .i64 g.c0)).setCell ⟨w4.heap.size, 1, none⟩ (.int .i64 g.c1)).setCell ⟨w4.heap.size, 2, none⟩ (.int .i64 g.c2)).setCell ⟨w4.heap.size, 3, none⟩ (.int .i64 g.last)) w4.heap.size (wdCells g q r (.slice a' l.length cap') safe) 38 := (((D6.set 0 (.int .i64 g.c0)).set 1 (.int .i64 g.c1)).set 2 (.int .i64 g.c2)).set 3 (.int .i64 g.last)
 have B7 : Blk ((((w6.setCell ⟨w4.heap.size, 0, none⟩ (.int .i64 g.c0)).setCell ⟨w4.heap.size, 1, none⟩ (.int .i64 g.c1)).setCell ⟨w4.heap.size, 2, none⟩ (.int .i64 g.c2)).setCell ⟨w4.heap.size, 3, none⟩ (.int .i64 g.last)) w.heap.size (wdCells p q r (.slice a l.length cap) safe) 38 := ((((B6.other _ _ hbz).other _ _ hbz).other _ _ hbz).other _ _ hbz)
 have hbz : w.heap.size + 1 ≠ w4.heap.size := by omega
 have N7 : Blk ((((w6.setCell ⟨w4.heap.size, 0, none⟩ (.int .i64 g.c0)).setCell ⟨w4.heap.size, 1, none⟩ (.int .i64 g.c1)).setCell ⟨w4.heap.size, 2, none⟩ (.int .i64 g.c2)).setCell ⟨w4.heap.size, 3, none⟩ (.int .i64 g.last)) (w.heap.size + 1) (wdCells noPg noPg noPg (.slice none 0 0) 0) 38 := ((((N6.other _ _ hbz).other _ _ hbz).other _ _ hbz).other _ _ hbz)
 have E7 : Ext w ((((w6.setCell ⟨w4.heap.size, 0, none⟩ (.int .i64 g.c0)).setCell ⟨w4.heap.size, 1, none⟩ (.int .i64 g.c1)).setCell ⟨w4.heap.size, 2, none⟩ (.int .i64 g.c2)).setCell ⟨w4.heap.size, 3, none⟩ (.int .i64 g.last)) := (((E6.setCell (p := ⟨w4.heap.size, 0, none⟩) (by dsimp only; omega) _).setCell (p := ⟨w4.heap.size, 1, none⟩) (by dsimp only; omega) _).setCell (p := ⟨w4.heap.size, 2, none⟩) (by dsimp only; omega) _).setCell (p := ⟨w4.heap.size, 3, none⟩) (by dsimp only; omega) _
 have G7 : Gr (some w4.heap.size) w6 ((((w6.setCell ⟨w4.heap.size, 0, none⟩ (.int .i64 g.c0)).setCell ⟨w4.heap.size, 1, none⟩ (.int .i64 g.c1)).setCell ⟨w4.heap.size, 2, none⟩ (.int .i64 g.c2)).setCell ⟨w4.heap.size, 3, none⟩ (.int .i64 g.last)) := ((((Gr.refl (some w4.heap.size) w6).set (p := ⟨w4.heap.size, 0, none⟩) (Or.inr rfl) _).set (p := ⟨w4.heap.size, 1, none⟩) (Or.inr rfl) _).set (p := ⟨w4.heap.size, 2, none⟩) (Or.inr rfl) _).set (p := ⟨w4.heap.size, 3, none⟩) (Or.inr rfl) _
 have own7 := own_gr own6 G7 (fun k hk e => by injection e with e; exact own_notblk own6 D6 (by decide) k hk e)
 clear D6 B6 N6 E6 own6 G7
 generalize (((w6.setCell ⟨w4.heap.size, 0, none⟩ (.int .i64 g.c0)).setCell ⟨w4.heap.size, 1, none⟩ (.int .i64 g.c1)).setCell ⟨w4.heap.size, 2, none⟩ (.int .i64 g.c2)).setCell ⟨w4.heap.size, 3, none⟩ (.int .i64 g.last) = w7 at *
 have Ed := (Ext.refl w7).drew
 have KC : Hid (∀ w', Blk w' w.heap.size (wdCells p q r (.slice a l.length cap) safe) 38 → w'.cell? ⟨w4.heap.size, 3, none⟩ = some (.int .i64 g.last) → w'.cell? ⟨w.heap.size, 13, none⟩ = some (.int .i64 safe) ∧ w'.cell? ⟨w4.heap.size, 3, none⟩ = some (.int .i64 g.last)) := fun w' x y => ⟨by rw [x.cell]; rfl, y⟩
 have KD : Hid (∀ w' s, Blk w' w4.heap.size (wdCells g q r (.slice a' l.length cap') s) 38 → w'.cell? ⟨w4.heap.size, 3, none⟩ = some (.int .i64 g.last)) := fun w' s x => by rw [x.cell]; rfl
 refine wp_region_held_drew (S := fun w' => w'.cell? ⟨w.heap.size, 13, none⟩ = some (.int .i64 safe) ∧ w'.cell? ⟨w4.heap.size, 3, none⟩ = some (.int .i64 g.last)) (by kernel_rfl) (KC.out _ (B7.ext Ed) (KD.out _ _ (D7.ext Ed))) (fun hHeld => ?_)
 refine tkn 0 rfl hHeld ?_
 simp only [Act.put]
 refine tkn 1 rfl hHeld ?_
 simp only [Act.put]
 refine tkn 2 rfl hHeld ?_
 simp only [Act.put]
 refine tkn 3 rfl hHeld ?_
 simp only [Act.put]
 refine tkn 4 rfl hHeld ?_
 simp only [Act.put]
 refine tkn 5 rfl hHeld ?_
 simp only [Act.put]
 refine tkn 6 rfl hHeld ?_
 simp only [Act.put]
 refine exn 7 rfl fun K hK => ?_
 go_simp
 refine hK.out _ _ (KC.out _ (B7.ext Ed) (KD.out _ _ (D7.ext Ed))) (fun hHeld => ?_)
 clear hK K
 refine tkn 8 rfl hHeld ?_
 simp only [Act.put]
 have d7 := D7.cell
 have f7 := D7.fr
 refine exn 9 rfl fun K hK => ?_
 go_simp
 have D8 : Blk (w7.setCell ⟨w4.heap.size, 13, none⟩ (.int .i64 g.last)) w4.heap.size (wdCells g q r (.slice a' l.length cap') g.last) 38 := D7.set 13 (.int .i64 g.last)
 have B8 := B7.other ⟨w4.heap.size, 13, none⟩ (.int .i64 g.last) (by dsimp only; omega)
 have N8 := (N7.other ⟨w4.heap.size, 13, none⟩ (.int .i64 g.last) hbz).drew
 have E8 := (E7.setCell (p := ⟨w4.heap.size, 13, none⟩) (by dsimp only; omega) (.int .i64 g.last)).drew
 have G8 : Gr (some w4.heap.size) w7 (w7.setCell ⟨w4.heap.size, 13, none⟩ (.int .i64 g.last)).drew := ((Gr.refl (some w4.heap.size) w7).set (p := ⟨w4.heap.size, 13, none⟩) (Or.inr rfl) _).drew
 have own8 := own_gr own7 G8 (fun k hk e => by injection e with e; exact own_notblk own7 D7 (by decide) k hk e)
 refine hK.out _ _ (KC.out _ B8.drew (KD.out _ _ D8.drew)) (fun hHeld => ?_)
 clear hK K hHeld d7 f7 KC KD G8
 replace D8 := D8.drew
 refine wpAnyH_done (by kernel_rfl) ?_ _
 clear D7 B7 N7 E7 own7 Ed
 generalize (w7.setCell ⟨w4.heap.size, 13, none⟩ (.int .i64 g.last)).drew = w8 at *
 have E9 := put14_ext E8 (w.heap.size + 1) (by omega) (.int .i64 g.c0) (.int .i64 g.c1) (.int .i64 g.c2) (.int .i64 g.last) (.int .i64 q.c0) (.int .i64 q.c1) (.int .i64 q.c2) (.int .i64 q.last) (.int .i64 r.c0) (.int .i64 r.c1) (.int .i64 r.c2) (.int .i64 r.last) (.slice a' l.length cap') (.int .i64 g.last)
 have G9 := put14_gr w8 (w.heap.size + 1) (.int .i64 g.c0) (.int .i64 g.c1) (.int .i64 g.c2) (.int .i64 g.last) (.int .i64 q.c0) (.int .i64 q.c1) (.int .i64 q.c2) (.int .i64 q.last) (.int .i64 r.c0) (.int .i64 r.c1) (.int .i64 r.c2) (.int .i64 r.last) (.slice a' l.length cap') (.int .i64 g.last)
 have own9 := own_gr own8 G9 (fun k hk e => by injection e with e; have := own_from own8 k hk; omega)
 have HIn := (show Hid _ from own_in2 own9 hl60)
 have HFrom : Hid (∀ ad, a' = some ad → w.heap.size ≤ ad.block) := fun ad e => by have := own_from own8 ad.block (by rw [e]; rfl); omega
 have dd := D8.cell
 have nn := N8.cell
 have ff := N8.fr
 have hne : w4.heap.size ≠ w.heap.size + 1 := by omega
 clear own9 G9
 go_wp2_with fail
 refine bodyPost_ret (v := .tuple #[.agg (wdCells g q r (.slice a' l.length cap') g.last), .int .i64 0]) (by simp [results, Tryz.results33, go_sem, nn]) rfl ⟨a', cap', rfl, ?_, ?_, HFrom.out⟩
 ·exact E9
 ·exact HIn.out
theorem flushOf_0b (p q r : Pg) (a : Option Addr) (cap : Nat) (l : List Rc) (safe : Int) (g : Pg) (w : World) (h : LogIn w a l.length cap l) (hz : worldErr p q r l safe = 0) (hl60 : l.length ≤ 60) (hfit : Fits l) (hg : pgAt (pagesR l) 0 = g) (hlt : ¬ safe < g.last) :
  Calls Tryz.prog 33 #[wdVal p q r (.slice a l.length cap) safe, .int .i64 0] w fun e w' => ∃ a' cap', e = .returned (.tuple #[wdVal g q r (.slice a' l.length cap') (safe), .int .i64 0]) ∧ Ext w w' ∧ LogIn w' a' l.length cap' l ∧ ∀ ad, a' = some ad → w.heap.size ≤ ad.block := by
 have E0 := ((Ext.refl w).alloc (.cells (wdCells p q r (.slice a l.length cap) safe) 38)).alloc (.cells (wdCells noPg noPg noPg (.slice none 0 0) 0) 38)
 have B0 := (Blk.new w w.heap.size (wdCells p q r (.slice a l.length cap) safe) 38 rfl).alloc (.cells (wdCells noPg noPg noPg (.slice none 0 0) 0) 38)
 have N0 := Blk.new (w.alloc (.cells (wdCells p q r (.slice a l.length cap) safe) 38)) (w.heap.size + 1) (wdCells noPg noPg noPg (.slice none 0 0) 0) 38 (by simp)
 have H := worldError_any p q r a l.length cap l safe _ (h.recs.ext E0) h.le h.max
 rw [hz] at H
 clear hz
 have HIx : Hid (∀ w, (Instr.index 35 (.agg (ints (pagesR l))) (.int .i64 0)).run Tryz.prog w = .ok (.agg #[.int .i64 g.c0, .int .i64 g.c1, .int .i64 g.c2, .int .i64 g.last]) w) := fun w => by
  rw [index_pages _ 0 (by decide) (by decide), ← hg]
  obtain ⟨y0, y1, y2, y3, y4, y5, y6, y7, y8, y9, y10, y11, hps⟩ := list12 _ (pagesR_len l)
  rw [hps]
  rfl
 clear hg
 have b0 := B0.cell
 go_enter Tryz.func33, Tryz.ntmps33
 go_wp2_with fail
 refine H.mono ?_
 rintro e w1 ⟨rfl, hE⟩
 have E := E0.trans hE
 have B := B0.ext hE
 have N := N0.ext hE
 clear H b0 B0 N0 E0 hE
 go_wp2_with fail
 refine (within_any 0 0 2 _).mono ?_
 rintro e w2 ⟨rfl, rfl⟩
 rw [show wi 0 0 2 = true from rfl]
 have b1 := B.cell
 go_wp2_with fail
 refine (ownWorld_any p q r a l.length cap l safe _ (h.ext E) hl60).mono ?_
 rintro e w4 ⟨a', cap', rfl, hw, hown⟩
 have hd4 : w2.heap.size ≤ w4.heap.size := hw.size
 have hn4 : w.heap.size + 1 < w2.heap.size := N.lt
 have hb4 : w.heap.size < w2.heap.size := B.lt
 have hEs := E.size
 have E6 := (E.trans hw).alloc (.cells (wdCells p q r (.slice a' l.length cap') safe) 38)
 have B6 := (B.ext hw).alloc (.cells (wdCells p q r (.slice a' l.length cap') safe) 38)
 have N6 := (N.ext hw).alloc (.cells (wdCells p q r (.slice a' l.length cap') safe) 38)
 have D6 := Blk.new w4 w4.heap.size (wdCells p q r (.slice a' l.length cap') safe) 38 rfl
 have own6 := own_ext hown ((Ext.refl w4).alloc (.cells (wdCells p q r (.slice a' l.length cap') safe) 38))
 have b6 := B6.cell
 clear b1 hw hown
 go_wp2_with fail
 refine (pages_any a l.length cap l _ (h.recs.ext E6) (by omega) hfit).mono ?_
 rintro e w6 ⟨rfl, hE⟩
 replace E6 := E6.trans hE
 replace B6 := B6.ext hE
 replace N6 := N6.ext hE
 replace D6 := D6.ext hE
 replace own6 := own_ext own6 hE
 clear hE b6
 have d6 := D6.cell
 have f6 := D6.fr
 have hix := HIx.out
 go_wp2_with fail
 clear hix HIx d6 f6
 have h40 : w4.heap.size ≠ w.heap.size := by omega
 have hbz : w.heap.size ≠ w4.heap.size := by omega
 have D7 : Blk ((((w6.setCell ⟨w4.heap.size, 0, none⟩ (.int .i64 g.c0)).setCell ⟨w4.heap.size, 1, none⟩ (.int .i64 g.c1)).setCell ⟨w4.heap.size, 2, none⟩ (.int .i64 g.c2)).setCell ⟨w4.heap.size, 3, none⟩ (.int .i64 g.last)) w4.heap.size (wdCells g q r (.slice a' l.length cap') safe) 38 := (((D6.set 0 (.int .i64 g.c0)).set 1 (.int .i64 g.c1)).set 2 (.int .i64 g.c2)).set 3 (.int .i64 g.last)
 have B7 : Blk ((((w6.setCell ⟨w4.heap.size, 0, none⟩ (.int .i64 g.c0)).setCell ⟨w4.heap.size, 1, none⟩ (.int .i64 g.c1)).setCell ⟨w4.heap.size, 2, none⟩ (.int .i64 g.c2)).setCell ⟨w4.heap.size, 3, none⟩ (.int .i64 g.last)) w.heap.size (wdCells p q r (.slice a l.length cap) safe) 38 := ((((B6.other _ _ hbz).other _ _ hbz).other _ _ hbz).other _ _ hbz)
 have hbz : w.heap.size + 1 ≠ w4.heap.size := by omega
 have N7 : Blk ((((w6.setCell ⟨w4.heap.size, 0, none⟩ (.int .i64 g.c0)).setCell ⟨w4.heap.size, 1, none⟩ (.int .i64 g.c1)).setCell ⟨w4.heap.size, 2, none⟩ (.int .i64 g.c2)).setCell ⟨w4.heap.size, 3, none⟩ (.int .i64 g.last)) (w.heap.size + 1) (wdCells noPg noPg noPg (.slice none 0 0) 0) 38 := ((((N6.other _ _ hbz).other _ _ hbz).other _ _ hbz).other _ _ hbz)
 have E7 : Ext w ((((w6.setCell ⟨w4.heap.size, 0, none⟩ (.int .i64 g.c0)).setCell ⟨w4.heap.size, 1, none⟩ (.int .i64 g.c1)).setCell ⟨w4.heap.size, 2, none⟩ (.int .i64 g.c2)).setCell ⟨w4.heap.size, 3, none⟩ (.int .i64 g.last)) := (((E6.setCell (p := ⟨w4.heap.size, 0, none⟩) (by dsimp only; omega) _).setCell (p := ⟨w4.heap.size, 1, none⟩) (by dsimp only; omega) _).setCell (p := ⟨w4.heap.size, 2, none⟩) (by dsimp only; omega) _).setCell (p := ⟨w4.heap.size, 3, none⟩) (by dsimp only; omega) _
 have G7 : Gr (some w4.heap.size) w6 ((((w6.setCell ⟨w4.heap.size, 0, none⟩ (.int .i64 g.c0)).setCell ⟨w4.heap.size, 1, none⟩ (.int .i64 g.c1)).setCell ⟨w4.heap.size, 2, none⟩ (.int .i64 g.c2)).setCell ⟨w4.heap.size, 3, none⟩ (.int .i64 g.last)) := ((((Gr.refl (some w4.heap.size) w6).set (p := ⟨w4.heap.size, 0, none⟩) (Or.inr rfl) _).set (p := ⟨w4.heap.size, 1, none⟩) (Or.inr rfl) _).set (p := ⟨w4.heap.size, 2, none⟩) (Or.inr rfl) _).set (p := ⟨w4.heap.size, 3, none⟩) (Or.inr rfl) _
 have own7 := own_gr own6 G7 (fun k hk e => by injection e with e; exact own_notblk own6 D6 (by decide) k hk e)
 clear D6 B6 N6 E6 own6 G7
 generalize (((w6.setCell ⟨w4.heap.size, 0, none⟩ (.int .i64 g.c0)).setCell ⟨w4.heap.size, 1, none⟩ (.int .i64 g.c1)).setCell ⟨w4.heap.size, 2, none⟩ (.int .i64 g.c2)).setCell ⟨w4.heap.size, 3, none⟩ (.int .i64 g.last) = w7 at *
 have Ed := (Ext.refl w7).drew
 have KC : Hid (∀ w', Blk w' w.heap.size (wdCells p q r (.slice a l.length cap) safe) 38 → w'.cell? ⟨w4.heap.size, 3, none⟩ = some (.int .i64 g.last) → w'.cell? ⟨w.heap.size, 13, none⟩ = some (.int .i64 safe) ∧ w'.cell? ⟨w4.heap.size, 3, none⟩ = some (.int .i64 g.last)) := fun w' x y => ⟨by rw [x.cell]; rfl, y⟩
 have KD : Hid (∀ w' s, Blk w' w4.heap.size (wdCells g q r (.slice a' l.length cap') s) 38 → w'.cell? ⟨w4.heap.size, 3, none⟩ = some (.int .i64 g.last)) := fun w' s x => by rw [x.cell]; rfl
 refine wp_region_held_drew (S := fun w' => w'.cell? ⟨w.heap.size, 13, none⟩ = some (.int .i64 safe) ∧ w'.cell? ⟨w4.heap.size, 3, none⟩ = some (.int .i64 g.last)) (by kernel_rfl) (KC.out _ (B7.ext Ed) (KD.out _ _ (D7.ext Ed))) (fun hHeld => ?_)
 refine tkn 0 rfl hHeld ?_
 simp only [Act.put]
 refine tkn 1 rfl hHeld ?_
 simp only [Act.put]
 refine tkn 2 rfl hHeld ?_
 simp only [Act.put]
 refine tkn 3 rfl hHeld ?_
 simp only [Act.put]
 refine tkn 4 rfl hHeld ?_
 simp only [Act.put]
 refine tkn 5 rfl hHeld ?_
 simp only [Act.put]
 refine tkn 6 rfl hHeld ?_
 simp only [Act.put]
 refine exn 7 rfl fun K hK => ?_
 go_simp
 rw [if_neg (show ¬ (g.last > safe) from by omega)]
 refine hK.out _ _ (KC.out _ (B7.ext Ed) (KD.out _ _ (D7.ext Ed))) (fun hHeld => ?_)
 clear hK K
 refine tkn 8 rfl hHeld ?_
 simp only [Act.put]
 have d7 := D7.cell
 have f7 := D7.fr
 refine exn 9 rfl fun K hK => ?_
 go_simp
 have D8 : Blk (w7.setCell ⟨w4.heap.size, 13, none⟩ (.int .i64 safe)) w4.heap.size (wdCells g q r (.slice a' l.length cap') safe) 38 := D7.set 13 (.int .i64 safe)
 have B8 := B7.other ⟨w4.heap.size, 13, none⟩ (.int .i64 safe) (by dsimp only; omega)
 have N8 := (N7.other ⟨w4.heap.size, 13, none⟩ (.int .i64 safe) hbz).drew
 have E8 := (E7.setCell (p := ⟨w4.heap.size, 13, none⟩) (by dsimp only; omega) (.int .i64 safe)).drew
 have G8 : Gr (some w4.heap.size) w7 (w7.setCell ⟨w4.heap.size, 13, none⟩ (.int .i64 safe)).drew := ((Gr.refl (some w4.heap.size) w7).set (p := ⟨w4.heap.size, 13, none⟩) (Or.inr rfl) _).drew
 have own8 := own_gr own7 G8 (fun k hk e => by injection e with e; exact own_notblk own7 D7 (by decide) k hk e)
 refine hK.out _ _ (KC.out _ B8.drew (KD.out _ _ D8.drew)) (fun hHeld => ?_)
 clear hK K hHeld d7 f7 KC KD G8
 replace D8 := D8.drew
 refine wpAnyH_done (by kernel_rfl) ?_ _
 clear D7 B7 N7 E7 own7 Ed
 generalize (w7.setCell ⟨w4.heap.size, 13, none⟩ (.int .i64 safe)).drew = w8 at *
 have E9 := put14_ext E8 (w.heap.size + 1) (by omega) (.int .i64 g.c0) (.int .i64 g.c1) (.int .i64 g.c2) (.int .i64 g.last) (.int .i64 q.c0) (.int .i64 q.c1) (.int .i64 q.c2) (.int .i64 q.last) (.int .i64 r.c0) (.int .i64 r.c1) (.int .i64 r.c2) (.int .i64 r.last) (.slice a' l.length cap') (.int .i64 safe)
 have G9 := put14_gr w8 (w.heap.size + 1) (.int .i64 g.c0) (.int .i64 g.c1) (.int .i64 g.c2) (.int .i64 g.last) (.int .i64 q.c0) (.int .i64 q.c1) (.int .i64 q.c2) (.int .i64 q.last) (.int .i64 r.c0) (.int .i64 r.c1) (.int .i64 r.c2) (.int .i64 r.last) (.slice a' l.length cap') (.int .i64 safe)
 have own9 := own_gr own8 G9 (fun k hk e => by injection e with e; have := own_from own8 k hk; omega)
 have HIn := (show Hid _ from own_in2 own9 hl60)
 have HFrom : Hid (∀ ad, a' = some ad → w.heap.size ≤ ad.block) := fun ad e => by have := own_from own8 ad.block (by rw [e]; rfl); omega
 have dd := D8.cell
 have nn := N8.cell
 have ff := N8.fr
 have hne : w4.heap.size ≠ w.heap.size + 1 := by omega
 clear own9 G9
 go_wp2_with fail
 refine bodyPost_ret (v := .tuple #[.agg (wdCells g q r (.slice a' l.length cap') safe), .int .i64 0]) (by simp [results, Tryz.results33, go_sem, nn]) rfl ⟨a', cap', rfl, ?_, ?_, HFrom.out⟩
 ·exact E9
 ·exact HIn.out
theorem flushOf_1a (p q r : Pg) (a : Option Addr) (cap : Nat) (l : List Rc) (safe : Int) (g : Pg) (w : World) (h : LogIn w a l.length cap l) (hz : worldErr p q r l safe = 0) (hl60 : l.length ≤ 60) (hfit : Fits l) (hg : pgAt (pagesR l) 1 = g) (hlt : safe < g.last) :
  Calls Tryz.prog 33 #[wdVal p q r (.slice a l.length cap) safe, .int .i64 1] w fun e w' => ∃ a' cap', e = .returned (.tuple #[wdVal p g r (.slice a' l.length cap') (g.last), .int .i64 0]) ∧ Ext w w' ∧ LogIn w' a' l.length cap' l ∧ ∀ ad, a' = some ad → w.heap.size ≤ ad.block := by
 have E0 := ((Ext.refl w).alloc (.cells (wdCells p q r (.slice a l.length cap) safe) 38)).alloc (.cells (wdCells noPg noPg noPg (.slice none 0 0) 0) 38)
 have B0 := (Blk.new w w.heap.size (wdCells p q r (.slice a l.length cap) safe) 38 rfl).alloc (.cells (wdCells noPg noPg noPg (.slice none 0 0) 0) 38)
 have N0 := Blk.new (w.alloc (.cells (wdCells p q r (.slice a l.length cap) safe) 38)) (w.heap.size + 1) (wdCells noPg noPg noPg (.slice none 0 0) 0) 38 (by simp)
 have H := worldError_any p q r a l.length cap l safe _ (h.recs.ext E0) h.le h.max
 rw [hz] at H
 clear hz
 have HIx : Hid (∀ w, (Instr.index 35 (.agg (ints (pagesR l))) (.int .i64 1)).run Tryz.prog w = .ok (.agg #[.int .i64 g.c0, .int .i64 g.c1, .int .i64 g.c2, .int .i64 g.last]) w) := fun w => by
  rw [index_pages _ 1 (by decide) (by decide), ← hg]
  obtain ⟨y0, y1, y2, y3, y4, y5, y6, y7, y8, y9, y10, y11, hps⟩ := list12 _ (pagesR_len l)
  rw [hps]
  rfl
 clear hg
 have b0 := B0.cell
 go_enter Tryz.func33, Tryz.ntmps33
 go_wp2_with fail
 refine H.mono ?_
 rintro e w1 ⟨rfl, hE⟩
 have E := E0.trans hE
 have B := B0.ext hE
 have N := N0.ext hE
 clear H b0 B0 N0 E0 hE
 go_wp2_with fail
 refine (within_any 1 0 2 _).mono ?_
 rintro e w2 ⟨rfl, rfl⟩
 rw [show wi 1 0 2 = true from rfl]
 have b1 := B.cell
 go_wp2_with fail
 refine (ownWorld_any p q r a l.length cap l safe _ (h.ext E) hl60).mono ?_
 rintro e w4 ⟨a', cap', rfl, hw, hown⟩
 have hd4 : w2.heap.size ≤ w4.heap.size := hw.size
 have hn4 : w.heap.size + 1 < w2.heap.size := N.lt
 have hb4 : w.heap.size < w2.heap.size := B.lt
 have hEs := E.size
 have E6 := (E.trans hw).alloc (.cells (wdCells p q r (.slice a' l.length cap') safe) 38)
 have B6 := (B.ext hw).alloc (.cells (wdCells p q r (.slice a' l.length cap') safe) 38)
 have N6 := (N.ext hw).alloc (.cells (wdCells p q r (.slice a' l.length cap') safe) 38)
 have D6 := Blk.new w4 w4.heap.size (wdCells p q r (.slice a' l.length cap') safe) 38 rfl
 have own6 := own_ext hown ((Ext.refl w4).alloc (.cells (wdCells p q r (.slice a' l.length cap') safe) 38))
 have b6 := B6.cell
 clear b1 hw hown
 go_wp2_with fail
 refine (pages_any a l.length cap l _ (h.recs.ext E6) (by omega) hfit).mono ?_
 rintro e w6 ⟨rfl, hE⟩
 replace E6 := E6.trans hE
 replace B6 := B6.ext hE
 replace N6 := N6.ext hE
 replace D6 := D6.ext hE
 replace own6 := own_ext own6 hE
 clear hE b6
 have d6 := D6.cell
 have f6 := D6.fr
 have hix := HIx.out
 go_wp2_with fail
 clear hix HIx d6 f6
 have h40 : w4.heap.size ≠ w.heap.size := by omega
 have hbz : w.heap.size ≠ w4.heap.size := by omega
 have D7 : Blk ((((w6.setCell ⟨w4.heap.size, 4, none⟩ (.int .i64 g.c0)).setCell ⟨w4.heap.size, 5, none⟩ (.int .i64 g.c1)).setCell ⟨w4.heap.size, 6, none⟩ (.int .i64 g.c2)).setCell ⟨w4.heap.size, 7, none⟩ (.int .i64 g.last)) w4.heap.size (wdCells p g r (.slice a' l.length cap') safe) 38 := (((D6.set 4 (.int .i64 g.c0)).set 5 (.int .i64 g.c1)).set 6 (.int .i64 g.c2)).set 7 (.int .i64 g.last)
 have B7 : Blk ((((w6.setCell ⟨w4.heap.size, 4, none⟩ (.int .i64 g.c0)).setCell ⟨w4.heap.size, 5, none⟩ (.int .i64 g.c1)).setCell ⟨w4.heap.size, 6, none⟩ (.int .i64 g.c2)).setCell ⟨w4.heap.size, 7, none⟩ (.int .i64 g.last)) w.heap.size (wdCells p q r (.slice a l.length cap) safe) 38 := ((((B6.other _ _ hbz).other _ _ hbz).other _ _ hbz).other _ _ hbz)
 have hbz : w.heap.size + 1 ≠ w4.heap.size := by omega
 have N7 : Blk ((((w6.setCell ⟨w4.heap.size, 4, none⟩ (.int .i64 g.c0)).setCell ⟨w4.heap.size, 5, none⟩ (.int .i64 g.c1)).setCell ⟨w4.heap.size, 6, none⟩ (.int .i64 g.c2)).setCell ⟨w4.heap.size, 7, none⟩ (.int .i64 g.last)) (w.heap.size + 1) (wdCells noPg noPg noPg (.slice none 0 0) 0) 38 := ((((N6.other _ _ hbz).other _ _ hbz).other _ _ hbz).other _ _ hbz)
 have E7 : Ext w ((((w6.setCell ⟨w4.heap.size, 4, none⟩ (.int .i64 g.c0)).setCell ⟨w4.heap.size, 5, none⟩ (.int .i64 g.c1)).setCell ⟨w4.heap.size, 6, none⟩ (.int .i64 g.c2)).setCell ⟨w4.heap.size, 7, none⟩ (.int .i64 g.last)) := (((E6.setCell (p := ⟨w4.heap.size, 4, none⟩) (by dsimp only; omega) _).setCell (p := ⟨w4.heap.size, 5, none⟩) (by dsimp only; omega) _).setCell (p := ⟨w4.heap.size, 6, none⟩) (by dsimp only; omega) _).setCell (p := ⟨w4.heap.size, 7, none⟩) (by dsimp only; omega) _
 have G7 : Gr (some w4.heap.size) w6 ((((w6.setCell ⟨w4.heap.size, 4, none⟩ (.int .i64 g.c0)).setCell ⟨w4.heap.size, 5, none⟩ (.int .i64 g.c1)).setCell ⟨w4.heap.size, 6, none⟩ (.int .i64 g.c2)).setCell ⟨w4.heap.size, 7, none⟩ (.int .i64 g.last)) := ((((Gr.refl (some w4.heap.size) w6).set (p := ⟨w4.heap.size, 4, none⟩) (Or.inr rfl) _).set (p := ⟨w4.heap.size, 5, none⟩) (Or.inr rfl) _).set (p := ⟨w4.heap.size, 6, none⟩) (Or.inr rfl) _).set (p := ⟨w4.heap.size, 7, none⟩) (Or.inr rfl) _
 have own7 := own_gr own6 G7 (fun k hk e => by injection e with e; exact own_notblk own6 D6 (by decide) k hk e)
 clear D6 B6 N6 E6 own6 G7
 generalize (((w6.setCell ⟨w4.heap.size, 4, none⟩ (.int .i64 g.c0)).setCell ⟨w4.heap.size, 5, none⟩ (.int .i64 g.c1)).setCell ⟨w4.heap.size, 6, none⟩ (.int .i64 g.c2)).setCell ⟨w4.heap.size, 7, none⟩ (.int .i64 g.last) = w7 at *
 have Ed := (Ext.refl w7).drew
 have KC : Hid (∀ w', Blk w' w.heap.size (wdCells p q r (.slice a l.length cap) safe) 38 → w'.cell? ⟨w4.heap.size, 7, none⟩ = some (.int .i64 g.last) → w'.cell? ⟨w.heap.size, 13, none⟩ = some (.int .i64 safe) ∧ w'.cell? ⟨w4.heap.size, 7, none⟩ = some (.int .i64 g.last)) := fun w' x y => ⟨by rw [x.cell]; rfl, y⟩
 have KD : Hid (∀ w' s, Blk w' w4.heap.size (wdCells p g r (.slice a' l.length cap') s) 38 → w'.cell? ⟨w4.heap.size, 7, none⟩ = some (.int .i64 g.last)) := fun w' s x => by rw [x.cell]; rfl
 refine wp_region_held_drew (S := fun w' => w'.cell? ⟨w.heap.size, 13, none⟩ = some (.int .i64 safe) ∧ w'.cell? ⟨w4.heap.size, 7, none⟩ = some (.int .i64 g.last)) (by kernel_rfl) (KC.out _ (B7.ext Ed) (KD.out _ _ (D7.ext Ed))) (fun hHeld => ?_)
 refine tkn 0 rfl hHeld ?_
 simp only [Act.put]
 refine tkn 1 rfl hHeld ?_
 simp only [Act.put]
 refine tkn 2 rfl hHeld ?_
 simp only [Act.put]
 refine tkn 3 rfl hHeld ?_
 simp only [Act.put]
 refine tkn 4 rfl hHeld ?_
 simp only [Act.put]
 refine tkn 5 rfl hHeld ?_
 simp only [Act.put]
 refine tkn 6 rfl hHeld ?_
 simp only [Act.put]
 refine exn 7 rfl fun K hK => ?_
 go_simp
 refine hK.out _ _ (KC.out _ (B7.ext Ed) (KD.out _ _ (D7.ext Ed))) (fun hHeld => ?_)
 clear hK K
 refine tkn 8 rfl hHeld ?_
 simp only [Act.put]
 have d7 := D7.cell
 have f7 := D7.fr
 refine exn 9 rfl fun K hK => ?_
 go_simp
 have D8 : Blk (w7.setCell ⟨w4.heap.size, 13, none⟩ (.int .i64 g.last)) w4.heap.size (wdCells p g r (.slice a' l.length cap') g.last) 38 := D7.set 13 (.int .i64 g.last)
 have B8 := B7.other ⟨w4.heap.size, 13, none⟩ (.int .i64 g.last) (by dsimp only; omega)
 have N8 := (N7.other ⟨w4.heap.size, 13, none⟩ (.int .i64 g.last) hbz).drew
 have E8 := (E7.setCell (p := ⟨w4.heap.size, 13, none⟩) (by dsimp only; omega) (.int .i64 g.last)).drew
 have G8 : Gr (some w4.heap.size) w7 (w7.setCell ⟨w4.heap.size, 13, none⟩ (.int .i64 g.last)).drew := ((Gr.refl (some w4.heap.size) w7).set (p := ⟨w4.heap.size, 13, none⟩) (Or.inr rfl) _).drew
 have own8 := own_gr own7 G8 (fun k hk e => by injection e with e; exact own_notblk own7 D7 (by decide) k hk e)
 refine hK.out _ _ (KC.out _ B8.drew (KD.out _ _ D8.drew)) (fun hHeld => ?_)
 clear hK K hHeld d7 f7 KC KD G8
 replace D8 := D8.drew
 refine wpAnyH_done (by kernel_rfl) ?_ _
 clear D7 B7 N7 E7 own7 Ed
 generalize (w7.setCell ⟨w4.heap.size, 13, none⟩ (.int .i64 g.last)).drew = w8 at *
 have E9 := put14_ext E8 (w.heap.size + 1) (by omega) (.int .i64 p.c0) (.int .i64 p.c1) (.int .i64 p.c2) (.int .i64 p.last) (.int .i64 g.c0) (.int .i64 g.c1) (.int .i64 g.c2) (.int .i64 g.last) (.int .i64 r.c0) (.int .i64 r.c1) (.int .i64 r.c2) (.int .i64 r.last) (.slice a' l.length cap') (.int .i64 g.last)
 have G9 := put14_gr w8 (w.heap.size + 1) (.int .i64 p.c0) (.int .i64 p.c1) (.int .i64 p.c2) (.int .i64 p.last) (.int .i64 g.c0) (.int .i64 g.c1) (.int .i64 g.c2) (.int .i64 g.last) (.int .i64 r.c0) (.int .i64 r.c1) (.int .i64 r.c2) (.int .i64 r.last) (.slice a' l.length cap') (.int .i64 g.last)
 have own9 := own_gr own8 G9 (fun k hk e => by injection e with e; have := own_from own8 k hk; omega)
 have HIn := (show Hid _ from own_in2 own9 hl60)
 have HFrom : Hid (∀ ad, a' = some ad → w.heap.size ≤ ad.block) := fun ad e => by have := own_from own8 ad.block (by rw [e]; rfl); omega
 have dd := D8.cell
 have nn := N8.cell
 have ff := N8.fr
 have hne : w4.heap.size ≠ w.heap.size + 1 := by omega
 clear own9 G9
 go_wp2_with fail
 refine bodyPost_ret (v := .tuple #[.agg (wdCells p g r (.slice a' l.length cap') g.last), .int .i64 0]) (by simp [results, Tryz.results33, go_sem, nn]) rfl ⟨a', cap', rfl, ?_, ?_, HFrom.out⟩
 ·exact E9
 ·exact HIn.out
theorem flushOf_1b (p q r : Pg) (a : Option Addr) (cap : Nat) (l : List Rc) (safe : Int) (g : Pg) (w : World) (h : LogIn w a l.length cap l) (hz : worldErr p q r l safe = 0) (hl60 : l.length ≤ 60) (hfit : Fits l) (hg : pgAt (pagesR l) 1 = g) (hlt : ¬ safe < g.last) :
  Calls Tryz.prog 33 #[wdVal p q r (.slice a l.length cap) safe, .int .i64 1] w fun e w' => ∃ a' cap', e = .returned (.tuple #[wdVal p g r (.slice a' l.length cap') (safe), .int .i64 0]) ∧ Ext w w' ∧ LogIn w' a' l.length cap' l ∧ ∀ ad, a' = some ad → w.heap.size ≤ ad.block := by
 have E0 := ((Ext.refl w).alloc (.cells (wdCells p q r (.slice a l.length cap) safe) 38)).alloc (.cells (wdCells noPg noPg noPg (.slice none 0 0) 0) 38)
 have B0 := (Blk.new w w.heap.size (wdCells p q r (.slice a l.length cap) safe) 38 rfl).alloc (.cells (wdCells noPg noPg noPg (.slice none 0 0) 0) 38)
 have N0 := Blk.new (w.alloc (.cells (wdCells p q r (.slice a l.length cap) safe) 38)) (w.heap.size + 1) (wdCells noPg noPg noPg (.slice none 0 0) 0) 38 (by simp)
 have H := worldError_any p q r a l.length cap l safe _ (h.recs.ext E0) h.le h.max
 rw [hz] at H
 clear hz
 have HIx : Hid (∀ w, (Instr.index 35 (.agg (ints (pagesR l))) (.int .i64 1)).run Tryz.prog w = .ok (.agg #[.int .i64 g.c0, .int .i64 g.c1, .int .i64 g.c2, .int .i64 g.last]) w) := fun w => by
  rw [index_pages _ 1 (by decide) (by decide), ← hg]
  obtain ⟨y0, y1, y2, y3, y4, y5, y6, y7, y8, y9, y10, y11, hps⟩ := list12 _ (pagesR_len l)
  rw [hps]
  rfl
 clear hg
 have b0 := B0.cell
 go_enter Tryz.func33, Tryz.ntmps33
 go_wp2_with fail
 refine H.mono ?_
 rintro e w1 ⟨rfl, hE⟩
 have E := E0.trans hE
 have B := B0.ext hE
 have N := N0.ext hE
 clear H b0 B0 N0 E0 hE
 go_wp2_with fail
 refine (within_any 1 0 2 _).mono ?_
 rintro e w2 ⟨rfl, rfl⟩
 rw [show wi 1 0 2 = true from rfl]
 have b1 := B.cell
 go_wp2_with fail
 refine (ownWorld_any p q r a l.length cap l safe _ (h.ext E) hl60).mono ?_
 rintro e w4 ⟨a', cap', rfl, hw, hown⟩
 have hd4 : w2.heap.size ≤ w4.heap.size := hw.size
 have hn4 : w.heap.size + 1 < w2.heap.size := N.lt
 have hb4 : w.heap.size < w2.heap.size := B.lt
 have hEs := E.size
 have E6 := (E.trans hw).alloc (.cells (wdCells p q r (.slice a' l.length cap') safe) 38)
 have B6 := (B.ext hw).alloc (.cells (wdCells p q r (.slice a' l.length cap') safe) 38)
 have N6 := (N.ext hw).alloc (.cells (wdCells p q r (.slice a' l.length cap') safe) 38)
 have D6 := Blk.new w4 w4.heap.size (wdCells p q r (.slice a' l.length cap') safe) 38 rfl
 have own6 := own_ext hown ((Ext.refl w4).alloc (.cells (wdCells p q r (.slice a' l.length cap') safe) 38))
 have b6 := B6.cell
 clear b1 hw hown
 go_wp2_with fail
 refine (pages_any a l.length cap l _ (h.recs.ext E6) (by omega) hfit).mono ?_
 rintro e w6 ⟨rfl, hE⟩
 replace E6 := E6.trans hE
 replace B6 := B6.ext hE
 replace N6 := N6.ext hE
 replace D6 := D6.ext hE
 replace own6 := own_ext own6 hE
 clear hE b6
 have d6 := D6.cell
 have f6 := D6.fr
 have hix := HIx.out
 go_wp2_with fail
 clear hix HIx d6 f6
 have h40 : w4.heap.size ≠ w.heap.size := by omega
 have hbz : w.heap.size ≠ w4.heap.size := by omega
 have D7 : Blk ((((w6.setCell ⟨w4.heap.size, 4, none⟩ (.int .i64 g.c0)).setCell ⟨w4.heap.size, 5, none⟩ (.int .i64 g.c1)).setCell ⟨w4.heap.size, 6, none⟩ (.int .i64 g.c2)).setCell ⟨w4.heap.size, 7, none⟩ (.int .i64 g.last)) w4.heap.size (wdCells p g r (.slice a' l.length cap') safe) 38 := (((D6.set 4 (.int .i64 g.c0)).set 5 (.int .i64 g.c1)).set 6 (.int .i64 g.c2)).set 7 (.int .i64 g.last)
 have B7 : Blk ((((w6.setCell ⟨w4.heap.size, 4, none⟩ (.int .i64 g.c0)).setCell ⟨w4.heap.size, 5, none⟩ (.int .i64 g.c1)).setCell ⟨w4.heap.size, 6, none⟩ (.int .i64 g.c2)).setCell ⟨w4.heap.size, 7, none⟩ (.int .i64 g.last)) w.heap.size (wdCells p q r (.slice a l.length cap) safe) 38 := ((((B6.other _ _ hbz).other _ _ hbz).other _ _ hbz).other _ _ hbz)
 have hbz : w.heap.size + 1 ≠ w4.heap.size := by omega
 have N7 : Blk ((((w6.setCell ⟨w4.heap.size, 4, none⟩ (.int .i64 g.c0)).setCell ⟨w4.heap.size, 5, none⟩ (.int .i64 g.c1)).setCell ⟨w4.heap.size, 6, none⟩ (.int .i64 g.c2)).setCell ⟨w4.heap.size, 7, none⟩ (.int .i64 g.last)) (w.heap.size + 1) (wdCells noPg noPg noPg (.slice none 0 0) 0) 38 := ((((N6.other _ _ hbz).other _ _ hbz).other _ _ hbz).other _ _ hbz)
 have E7 : Ext w ((((w6.setCell ⟨w4.heap.size, 4, none⟩ (.int .i64 g.c0)).setCell ⟨w4.heap.size, 5, none⟩ (.int .i64 g.c1)).setCell ⟨w4.heap.size, 6, none⟩ (.int .i64 g.c2)).setCell ⟨w4.heap.size, 7, none⟩ (.int .i64 g.last)) := (((E6.setCell (p := ⟨w4.heap.size, 4, none⟩) (by dsimp only; omega) _).setCell (p := ⟨w4.heap.size, 5, none⟩) (by dsimp only; omega) _).setCell (p := ⟨w4.heap.size, 6, none⟩) (by dsimp only; omega) _).setCell (p := ⟨w4.heap.size, 7, none⟩) (by dsimp only; omega) _
 have G7 : Gr (some w4.heap.size) w6 ((((w6.setCell ⟨w4.heap.size, 4, none⟩ (.int .i64 g.c0)).setCell ⟨w4.heap.size, 5, none⟩ (.int .i64 g.c1)).setCell ⟨w4.heap.size, 6, none⟩ (.int .i64 g.c2)).setCell ⟨w4.heap.size, 7, none⟩ (.int .i64 g.last)) := ((((Gr.refl (some w4.heap.size) w6).set (p := ⟨w4.heap.size, 4, none⟩) (Or.inr rfl) _).set (p := ⟨w4.heap.size, 5, none⟩) (Or.inr rfl) _).set (p := ⟨w4.heap.size, 6, none⟩) (Or.inr rfl) _).set (p := ⟨w4.heap.size, 7, none⟩) (Or.inr rfl) _
 have own7 := own_gr own6 G7 (fun k hk e => by injection e with e; exact own_notblk own6 D6 (by decide) k hk e)
 clear D6 B6 N6 E6 own6 G7
 generalize (((w6.setCell ⟨w4.heap.size, 4, none⟩ (.int .i64 g.c0)).setCell ⟨w4.heap.size, 5, none⟩ (.int .i64 g.c1)).setCell ⟨w4.heap.size, 6, none⟩ (.int .i64 g.c2)).setCell ⟨w4.heap.size, 7, none⟩ (.int .i64 g.last) = w7 at *
 have Ed := (Ext.refl w7).drew
 have KC : Hid (∀ w', Blk w' w.heap.size (wdCells p q r (.slice a l.length cap) safe) 38 → w'.cell? ⟨w4.heap.size, 7, none⟩ = some (.int .i64 g.last) → w'.cell? ⟨w.heap.size, 13, none⟩ = some (.int .i64 safe) ∧ w'.cell? ⟨w4.heap.size, 7, none⟩ = some (.int .i64 g.last)) := fun w' x y => ⟨by rw [x.cell]; rfl, y⟩
 have KD : Hid (∀ w' s, Blk w' w4.heap.size (wdCells p g r (.slice a' l.length cap') s) 38 → w'.cell? ⟨w4.heap.size, 7, none⟩ = some (.int .i64 g.last)) := fun w' s x => by rw [x.cell]; rfl
 refine wp_region_held_drew (S := fun w' => w'.cell? ⟨w.heap.size, 13, none⟩ = some (.int .i64 safe) ∧ w'.cell? ⟨w4.heap.size, 7, none⟩ = some (.int .i64 g.last)) (by kernel_rfl) (KC.out _ (B7.ext Ed) (KD.out _ _ (D7.ext Ed))) (fun hHeld => ?_)
 refine tkn 0 rfl hHeld ?_
 simp only [Act.put]
 refine tkn 1 rfl hHeld ?_
 simp only [Act.put]
 refine tkn 2 rfl hHeld ?_
 simp only [Act.put]
 refine tkn 3 rfl hHeld ?_
 simp only [Act.put]
 refine tkn 4 rfl hHeld ?_
 simp only [Act.put]
 refine tkn 5 rfl hHeld ?_
 simp only [Act.put]
 refine tkn 6 rfl hHeld ?_
 simp only [Act.put]
 refine exn 7 rfl fun K hK => ?_
 go_simp
 rw [if_neg (show ¬ (g.last > safe) from by omega)]
 refine hK.out _ _ (KC.out _ (B7.ext Ed) (KD.out _ _ (D7.ext Ed))) (fun hHeld => ?_)
 clear hK K
 refine tkn 8 rfl hHeld ?_
 simp only [Act.put]
 have d7 := D7.cell
 have f7 := D7.fr
 refine exn 9 rfl fun K hK => ?_
 go_simp
 have D8 : Blk (w7.setCell ⟨w4.heap.size, 13, none⟩ (.int .i64 safe)) w4.heap.size (wdCells p g r (.slice a' l.length cap') safe) 38 := D7.set 13 (.int .i64 safe)
 have B8 := B7.other ⟨w4.heap.size, 13, none⟩ (.int .i64 safe) (by dsimp only; omega)
 have N8 := (N7.other ⟨w4.heap.size, 13, none⟩ (.int .i64 safe) hbz).drew
 have E8 := (E7.setCell (p := ⟨w4.heap.size, 13, none⟩) (by dsimp only; omega) (.int .i64 safe)).drew
 have G8 : Gr (some w4.heap.size) w7 (w7.setCell ⟨w4.heap.size, 13, none⟩ (.int .i64 safe)).drew := ((Gr.refl (some w4.heap.size) w7).set (p := ⟨w4.heap.size, 13, none⟩) (Or.inr rfl) _).drew
 have own8 := own_gr own7 G8 (fun k hk e => by injection e with e; exact own_notblk own7 D7 (by decide) k hk e)
 refine hK.out _ _ (KC.out _ B8.drew (KD.out _ _ D8.drew)) (fun hHeld => ?_)
 clear hK K hHeld d7 f7 KC KD G8
 replace D8 := D8.drew
 refine wpAnyH_done (by kernel_rfl) ?_ _
 clear D7 B7 N7 E7 own7 Ed
 generalize (w7.setCell ⟨w4.heap.size, 13, none⟩ (.int .i64 safe)).drew = w8 at *
 have E9 := put14_ext E8 (w.heap.size + 1) (by omega) (.int .i64 p.c0) (.int .i64 p.c1) (.int .i64 p.c2) (.int .i64 p.last) (.int .i64 g.c0) (.int .i64 g.c1) (.int .i64 g.c2) (.int .i64 g.last) (.int .i64 r.c0) (.int .i64 r.c1) (.int .i64 r.c2) (.int .i64 r.last) (.slice a' l.length cap') (.int .i64 safe)
 have G9 := put14_gr w8 (w.heap.size + 1) (.int .i64 p.c0) (.int .i64 p.c1) (.int .i64 p.c2) (.int .i64 p.last) (.int .i64 g.c0) (.int .i64 g.c1) (.int .i64 g.c2) (.int .i64 g.last) (.int .i64 r.c0) (.int .i64 r.c1) (.int .i64 r.c2) (.int .i64 r.last) (.slice a' l.length cap') (.int .i64 safe)
 have own9 := own_gr own8 G9 (fun k hk e => by injection e with e; have := own_from own8 k hk; omega)
 have HIn := (show Hid _ from own_in2 own9 hl60)
 have HFrom : Hid (∀ ad, a' = some ad → w.heap.size ≤ ad.block) := fun ad e => by have := own_from own8 ad.block (by rw [e]; rfl); omega
 have dd := D8.cell
 have nn := N8.cell
 have ff := N8.fr
 have hne : w4.heap.size ≠ w.heap.size + 1 := by omega
 clear own9 G9
 go_wp2_with fail
 refine bodyPost_ret (v := .tuple #[.agg (wdCells p g r (.slice a' l.length cap') safe), .int .i64 0]) (by simp [results, Tryz.results33, go_sem, nn]) rfl ⟨a', cap', rfl, ?_, ?_, HFrom.out⟩
 ·exact E9
 ·exact HIn.out
end Go.Proofs.YtibfgbmhmdggmaaGreatDoor.B
