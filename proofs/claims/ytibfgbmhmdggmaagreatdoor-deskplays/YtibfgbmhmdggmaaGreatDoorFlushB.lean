/- The contracts of the flush's Sync and Page. The contracts of the reference's SyncOf and FlushOf. -/
import Derived.Test.YtibfgbmhmdggmaaGreatDoorPlainB
import Derived.Test.YtibfgbmhmdggmaaGreatDoorWork6
namespace Go.Proofs.YtibfgbmhmdggmaaGreatDoor.B
set_option maxHeartbeats 32000000
set_option maxRecDepth 100000
open Go.ChangeShapes Go.WideShapes Go.ChangeAt Go.RowKit
theorem sync1_any {base db pb mt mh : Nat} {l : List Rc} {tx : List TxE} {ho : List HE} {p q s : Pg} {lv : Value} {safe : Int} (n : Int) (b1 : Nat) (w : World) (h : DeskOk w base db pb mt mh l tx ho p q s lv safe) (B1 : Blk w b1 #[.int .i64 n] 3) :
  Calls Tryz.prog 104 #[.pointer (some ⟨db, 0, none⟩), .pointer (some ⟨b1, 0, none⟩)] w fun e w' => e = .returned (.int .i64 (syncErr l n)) ∧ Below base w w' ∧
   (syncErr l n = 0 → ∃ tx' ho' lv', DeskOk w' base db pb mt mh l tx' ho' p q s lv' (maxI safe n)) := by
 have hbase : base ≤ w.heap.size := Nat.le_trans h.ge (Nat.le_of_lt h.blk.lt)
 have X3 : Hid (out 0 (l.length : Nat) [n] = true → syncErr l n = 3) := fun x => by unfold syncErr; rw [x]; rfl
 have X0 : Hid (out 0 (l.length : Nat) [n] = false → syncErr l n = 0) := fun x => by unfold syncErr; rw [x]; rfl
 generalize syncErr l n = se at *
 have KC : Hid (∀ w', Ext w w' → w'.cell? ⟨db, 0, none⟩ = some (.pointer (some ⟨pb, 0, none⟩)) ∧ w'.cell? ⟨pb, 14, none⟩ = some (.int .i64 (l.length : Nat)) ∧ w'.cell? ⟨b1, 0, none⟩ = some (.int .i64 n)) := fun w' e => ⟨by rw [(h.ext e).blk.cell]; rfl, by rw [(h.ext e).book.blk.cell]; exact (bookCells_12 _ mt mh _ (pagesR_len l)).2.2, by rw [(B1.ext e).cell]; rfl⟩
 go_enter Tryz.func104, Tryz.ntmps104
 go_wp2_with fail
 have Ed := (Ext.refl w).drew
 refine wp_region_held_drew (S := fun w' => w'.cell? ⟨db, 0, none⟩ = some (.pointer (some ⟨pb, 0, none⟩)) ∧ w'.cell? ⟨pb, 14, none⟩ = some (.int .i64 (l.length : Nat)) ∧ w'.cell? ⟨b1, 0, none⟩ = some (.int .i64 n)) (by kernel_rfl) (KC.out _ Ed) (fun hHeld => ?_)
 refine tkn 0 rfl hHeld ?_
 simp only [Act.put]
 refine tkn 1 rfl hHeld ?_
 simp only [Act.put]
 refine tkn 2 rfl hHeld ?_
 simp only [Act.put]
 refine tkn 3 rfl hHeld ?_
 simp only [Act.put]
 refine tkn 4 rfl hHeld ?_
 simp only [Act.put]
 refine tkn 5 rfl hHeld ?_
 simp only [Act.put]
 refine tkn 6 rfl hHeld ?_
 simp only [Act.put]
 refine tkn 7 rfl hHeld ?_
 simp only [Act.put]
 refine exn 8 rfl fun K hK => ?_
 go_simp
 have E1 := ((Ext.refl w).alloc (.cells #[.int .i64 n] 3)).drew
 refine hK.out _ _ (KC.out _ E1) (fun hHeld => ?_)
 clear hK K
 refine exn 9 rfl fun K hK => ?_
 go_simp
 refine (outside_n 1 0 (l.length : Nat) _ 0 1 [n] _ rfl (by decide) (cells1 (by simp [go_sem]))).mono ?_
 rintro e w1 ⟨rfl, rfl⟩
 go_wp2_with fail
 refine hK.out _ _ (KC.out _ E1) (fun hHeld => ?_)
 clear hK K hHeld
 refine wpAnyH_done (by kernel_rfl) ?_ _
 cases hn : out 0 (l.length : Nat) [n]
 ·have HSE := (show Hid (se = 0) from X0.out hn)
  have b1c := (KC.out _ E1).2.2
  have D1 := h.ext E1
  clear hn X3 X0 KC
  generalize (w.alloc (.cells #[.int .i64 n] 3)).drew = w1 at *
  go_wp2_with fail
  refine (secure_any n _ D1).mono ?_
  rintro e w2 ⟨rfl, hB2, hD2⟩
  go_wp2_with fail
  go_ret
  exact ⟨by rw [HSE.out]; rfl, Below.trans (Below.mono E1 hbase) hB2, fun _ => ⟨tx, ho, lv, hD2⟩⟩
 ·have HSE := (show Hid (se = 3) from X3.out hn)
  clear hn X3 X0 KC
  go_wp2_with fail
  go_ret
  exact ⟨by rw [HSE.out]; rfl, Below.mono E1 hbase, fun x => by rw [HSE.out] at x; cases x⟩
theorem layBad_any {db : Nat} (x : Int) (bp : Nat) (w : World) (BP : Blk w bp #[.int .i64 x] 3) (hx : out 0 2 [x] = true) :
  Calls Tryz.prog 108 #[.pointer (some ⟨db, 0, none⟩), .slice (some ⟨bp, 0, none⟩) 1 1] w fun e w' => e = .returned (.int .i64 3) ∧ w' = w := by
 have bp0 := BP.cell
 have HX := (show Hid (out 0 2 [x] = true) from hx)
 clear hx
 go_enter Tryz.func108, Tryz.ntmps108
 go_wp2_with fail
 refine (outside_n 1 0 2 _ 0 1 [x] _ rfl (by decide) (cells1 (by simp [bp0]))).mono ?_
 rintro e w1 ⟨rfl, rfl⟩
 rw [HX.out]
 go_wp2_with fail
 go_ret
 exact ⟨rfl, rfl⟩
theorem layOne_any {base db pb mt mh : Nat} {l : List Rc} {tx : List TxE} {ho : List HE} {p q s : Pg} {lv : Value} {safe : Int} (x : Int) (bp : Nat) (w : World) (h : DeskOk w base db pb mt mh l tx ho p q s lv safe) (BP : Blk w bp #[.int .i64 x] 3) :
  Calls Tryz.prog 108 #[.pointer (some ⟨db, 0, none⟩), .slice (some ⟨bp, 0, none⟩) 1 1] w fun e w' => e = .returned (.int .i64 (pageErr x)) ∧ Below base w w' ∧
   (pageErr x = 0 → DeskOk w' base db pb mt mh l tx ho (layPg l x 0 p) (layPg l x 1 q) (layPg l x 2 s) lv (laySafe l safe x)) := by
 have hbase : base ≤ w.heap.size := Nat.le_trans h.ge (Nat.le_of_lt h.blk.lt)
 cases hx : out 0 2 [x]
 ·have he : pageErr x = 0 := by unfold pageErr; rw [hx]; rfl
  obtain ⟨x0, x2⟩ := out1_false hx
  rw [he]
  have hc : x = 0 ∨ x = 1 ∨ x = 2 := by omega
  rcases hc with rfl | rfl | rfl
  ·exact (lay0_any bp w h BP).mono fun e w' ⟨h1, h2, h3⟩ => ⟨h1, h2, fun _ => h3⟩
  ·exact (lay1_any bp w h BP).mono fun e w' ⟨h1, h2, h3⟩ => ⟨h1, h2, fun _ => h3⟩
  ·exact (lay2_any bp w h BP).mono fun e w' ⟨h1, h2, h3⟩ => ⟨h1, h2, fun _ => h3⟩
 ·have he : pageErr x = 3 := by unfold pageErr; rw [hx]; rfl
  rw [he]
  refine (layBad_any x bp w BP hx).mono fun e w' ⟨h1, h2⟩ => ⟨h1, ?_, fun y => by cases y⟩
  subst h2
  exact Below.mono (Ext.refl _) hbase
theorem page1_any {base db pb mt mh : Nat} {l : List Rc} {tx : List TxE} {ho : List HE} {p q s : Pg} {lv : Value} {safe : Int} (x : Int) (b1 : Nat) (w : World) (h : DeskOk w base db pb mt mh l tx ho p q s lv safe) (B1 : Blk w b1 #[.int .i64 x] 3) :
  Calls Tryz.prog 107 #[.pointer (some ⟨db, 0, none⟩), .pointer (some ⟨b1, 0, none⟩)] w fun e w' => e = .returned (.int .i64 (pageErr x)) ∧ Below base w w' ∧
   (pageErr x = 0 → ∃ tx' ho' lv', DeskOk w' base db pb mt mh l tx' ho' (layPg l x 0 p) (layPg l x 1 q) (layPg l x 2 s) lv' (laySafe l safe x)) := by
 have hbase : base ≤ w.heap.size := Nat.le_trans h.ge (Nat.le_of_lt h.blk.lt)
 have E1 := (Ext.refl w).alloc (.cells #[.int .i64 x] 3)
 have H := layOne_any x w.heap.size _ (h.ext E1) (Blk.new w w.heap.size #[.int .i64 x] 3 rfl)
 generalize pageErr x = pe at *
 have c1 := B1.cell
 go_enter Tryz.func107, Tryz.ntmps107
 go_wp2_with fail
 refine H.mono ?_
 rintro e w1 ⟨rfl, h1, h2⟩
 go_wp2_with fail
 go_ret
 exact ⟨rfl, Below.trans (Below.mono E1 hbase) h1, fun y => ⟨tx, ho, lv, h2 y⟩⟩
theorem flushSync_any (p q r : Pg) (a : Option Addr) (len cap : Nat) (l : List Rc) (safe : Int) (n : Int) (w : World) (h : LogIn w a len cap l) :
  Calls Tryz.prog 70 #[wdVal p q r (.slice a len cap) safe, .int .i64 n] w fun e w' => Ext w w' ∧ WorkAns w.heap.size w' e p q r (errOf (worldErr p q r l safe) (syncErr l n)) l (maxI safe n) := by
 have E0 := ((((Ext.refl w).alloc (.cells (wdCells p q r (.slice a len cap) safe) 38)).alloc (.cells #[.int .i64 n] 3)).alloc (.cells (wdCells noPg noPg noPg (.slice none 0 0) 0) 38))
 have B0 := (((Blk.new w (w.heap.size) (wdCells p q r (.slice a len cap) safe) 38 (by simp)).alloc (.cells #[.int .i64 n] 3)).alloc (.cells (wdCells noPg noPg noPg (.slice none 0 0) 0) 38))
 have B1 := ((Blk.new (w.alloc (.cells (wdCells p q r (.slice a len cap) safe) 38)) (w.heap.size + 1) #[.int .i64 n] 3 (by simp)).alloc (.cells (wdCells noPg noPg noPg (.slice none 0 0) 0) 38))
 have B2 := (Blk.new ((w.alloc (.cells (wdCells p q r (.slice a len cap) safe) 38)).alloc (.cells #[.int .i64 n] 3)) (w.heap.size + 1 + 1) (wdCells noPg noPg noPg (.slice none 0 0) 0) 38 (by simp))
 have b0 := B0.cell
 have H := do_any p q r a len cap l l safe (maxI safe n) (syncErr l n) 104 #[.pointer (some ⟨w.heap.size + 1, 0, none⟩)] _ (h.ext E0) (fun v w => callFunc_enter _ w Tryz.func104 (by kernel_rfl) (by kernel_rfl))
  (fun w' base db pb mt mh tx ho lv e _ hD => sync1_any n _ w' hD (B1.ext e))
 have hsz : w.heap.size ≤ w.heap.size + 1 + 1 := by omega
 generalize errOf (worldErr p q r l safe) (syncErr l n) = xx at *
 generalize maxI safe n = safe' at *
 go_enter Tryz.func70, Tryz.ntmps70
 go_wp2_with fail
 refine H.mono ?_
 rintro e w1 ⟨hE, ⟨h0, a', cap', rfl, hin, hfrom⟩ | ⟨h0, rfl⟩⟩
 ·have Z1 := B2.ext hE
  have z := Z1.cell
  have f := Z1.fr
  have E1 := E0.trans hE
  have HX := (show Hid (xx = 0) from h0)
  have HIn := (show Hid _ from hin.gr (put14_gr w1 (w.heap.size + 1 + 1) (.int .i64 p.c0) (.int .i64 p.c1) (.int .i64 p.c2) (.int .i64 p.last) (.int .i64 q.c0) (.int .i64 q.c1) (.int .i64 q.c2) (.int .i64 q.last) (.int .i64 r.c0) (.int .i64 r.c1) (.int .i64 r.c2) (.int .i64 r.last) (.slice a' l.length cap') (.int .i64 safe')) (fun ad e e2 => by injection e2 with e2; have := hfrom ad e; simp at this; omega))
  have HFrom : Hid (∀ ad, a' = some ad → w.heap.size ≤ ad.block) := fun ad e => by have := hfrom ad e; simp at this; omega
  have E2 := put14_ext E1 (w.heap.size + 1 + 1) (by omega) (.int .i64 p.c0) (.int .i64 p.c1) (.int .i64 p.c2) (.int .i64 p.last) (.int .i64 q.c0) (.int .i64 q.c1) (.int .i64 q.c2) (.int .i64 q.last) (.int .i64 r.c0) (.int .i64 r.c1) (.int .i64 r.c2) (.int .i64 r.last) (.slice a' l.length cap') (.int .i64 safe')
  clear H hin hfrom h0 b0 B0 B1 B2
  go_wp2_with fail
  refine bodyPost_ret (v := .tuple #[.agg (wdCells p q r (.slice a' l.length cap') safe'), .int .i64 0]) (by simp [results, Tryz.results70, go_sem, z]) rfl ⟨?_, Or.inl ⟨HX.out, a', cap', rfl, ?_, HFrom.out⟩⟩
  ·exact E2
  ·exact HIn.out
 ·have Z1 := B2.ext hE
  have z := Z1.cell
  have f := Z1.fr
  have E1 := E0.trans hE
  have HX := (show Hid (xx ≠ 0) from h0)
  have E2 := put14_ext E1 (w.heap.size + 1 + 1) (by omega) (.int .i64 0) (.int .i64 0) (.int .i64 0) (.int .i64 0) (.int .i64 0) (.int .i64 0) (.int .i64 0) (.int .i64 0) (.int .i64 0) (.int .i64 0) (.int .i64 0) (.int .i64 0) (.slice none 0 0) (.int .i64 0)
  clear H h0 b0 B0 B1 B2
  go_wp2_with fail
  refine bodyPost_ret (v := .tuple #[.agg (wdCells noPg noPg noPg (.slice none 0 0) 0), .int .i64 xx]) (by simp [results, Tryz.results70, go_sem, z]) rfl ⟨?_, Or.inr ⟨HX.out, rfl⟩⟩
  exact E2
theorem flushPage_any (p q r : Pg) (a : Option Addr) (len cap : Nat) (l : List Rc) (safe : Int) (x : Int) (w : World) (h : LogIn w a len cap l) :
  Calls Tryz.prog 72 #[wdVal p q r (.slice a len cap) safe, .int .i64 x] w fun e w' => Ext w w' ∧ WorkAns w.heap.size w' e (layPg l x 0 p) (layPg l x 1 q) (layPg l x 2 r) (errOf (worldErr p q r l safe) (pageErr x)) l (laySafe l safe x) := by
 have E0 := ((((Ext.refl w).alloc (.cells (wdCells p q r (.slice a len cap) safe) 38)).alloc (.cells #[.int .i64 x] 3)).alloc (.cells (wdCells noPg noPg noPg (.slice none 0 0) 0) 38))
 have B0 := (((Blk.new w (w.heap.size) (wdCells p q r (.slice a len cap) safe) 38 (by simp)).alloc (.cells #[.int .i64 x] 3)).alloc (.cells (wdCells noPg noPg noPg (.slice none 0 0) 0) 38))
 have B1 := ((Blk.new (w.alloc (.cells (wdCells p q r (.slice a len cap) safe) 38)) (w.heap.size + 1) #[.int .i64 x] 3 (by simp)).alloc (.cells (wdCells noPg noPg noPg (.slice none 0 0) 0) 38))
 have B2 := (Blk.new ((w.alloc (.cells (wdCells p q r (.slice a len cap) safe) 38)).alloc (.cells #[.int .i64 x] 3)) (w.heap.size + 1 + 1) (wdCells noPg noPg noPg (.slice none 0 0) 0) 38 (by simp))
 have b0 := B0.cell
 have H := do_disk p q r (layPg l x 0 p) (layPg l x 1 q) (layPg l x 2 r) a len cap l l safe (laySafe l safe x) (pageErr x) 107 #[.pointer (some ⟨w.heap.size + 1, 0, none⟩)] _ (h.ext E0) (fun v w => callFunc_enter _ w Tryz.func107 (by kernel_rfl) (by kernel_rfl))
  (fun w' base db pb mt mh tx ho lv e _ hD => page1_any x _ w' hD (B1.ext e))
 have hsz : w.heap.size ≤ w.heap.size + 1 + 1 := by omega
 generalize errOf (worldErr p q r l safe) (pageErr x) = xx at *
 generalize laySafe l safe x = safe' at *
 generalize layPg l x 0 p = p' at *
 generalize layPg l x 1 q = q' at *
 generalize layPg l x 2 r = r' at *
 go_enter Tryz.func72, Tryz.ntmps72
 go_wp2_with fail
 refine H.mono ?_
 rintro e w1 ⟨hE, ⟨h0, a', cap', rfl, hin, hfrom⟩ | ⟨h0, rfl⟩⟩
 ·have Z1 := B2.ext hE
  have z := Z1.cell
  have f := Z1.fr
  have E1 := E0.trans hE
  have HX := (show Hid (xx = 0) from h0)
  have HIn := (show Hid _ from hin.gr (put14_gr w1 (w.heap.size + 1 + 1) (.int .i64 p'.c0) (.int .i64 p'.c1) (.int .i64 p'.c2) (.int .i64 p'.last) (.int .i64 q'.c0) (.int .i64 q'.c1) (.int .i64 q'.c2) (.int .i64 q'.last) (.int .i64 r'.c0) (.int .i64 r'.c1) (.int .i64 r'.c2) (.int .i64 r'.last) (.slice a' l.length cap') (.int .i64 safe')) (fun ad e e2 => by injection e2 with e2; have := hfrom ad e; simp at this; omega))
  have HFrom : Hid (∀ ad, a' = some ad → w.heap.size ≤ ad.block) := fun ad e => by have := hfrom ad e; simp at this; omega
  have E2 := put14_ext E1 (w.heap.size + 1 + 1) (by omega) (.int .i64 p'.c0) (.int .i64 p'.c1) (.int .i64 p'.c2) (.int .i64 p'.last) (.int .i64 q'.c0) (.int .i64 q'.c1) (.int .i64 q'.c2) (.int .i64 q'.last) (.int .i64 r'.c0) (.int .i64 r'.c1) (.int .i64 r'.c2) (.int .i64 r'.last) (.slice a' l.length cap') (.int .i64 safe')
  clear H hin hfrom h0 b0 B0 B1 B2
  go_wp2_with fail
  refine bodyPost_ret (v := .tuple #[.agg (wdCells p' q' r' (.slice a' l.length cap') safe'), .int .i64 0]) (by simp [results, Tryz.results72, go_sem, z]) rfl ⟨?_, Or.inl ⟨HX.out, a', cap', rfl, ?_, HFrom.out⟩⟩
  ·exact E2
  ·exact HIn.out
 ·have Z1 := B2.ext hE
  have z := Z1.cell
  have f := Z1.fr
  have E1 := E0.trans hE
  have HX := (show Hid (xx ≠ 0) from h0)
  have E2 := put14_ext E1 (w.heap.size + 1 + 1) (by omega) (.int .i64 0) (.int .i64 0) (.int .i64 0) (.int .i64 0) (.int .i64 0) (.int .i64 0) (.int .i64 0) (.int .i64 0) (.int .i64 0) (.int .i64 0) (.int .i64 0) (.int .i64 0) (.slice none 0 0) (.int .i64 0)
  clear H h0 b0 B0 B1 B2
  go_wp2_with fail
  refine bodyPost_ret (v := .tuple #[.agg (wdCells noPg noPg noPg (.slice none 0 0) 0), .int .i64 xx]) (by simp [results, Tryz.results72, go_sem, z]) rfl ⟨?_, Or.inr ⟨HX.out, rfl⟩⟩
  exact E2
theorem syncOf_w (p q r : Pg) (a : Option Addr) (cap : Nat) (l : List Rc) (safe : Int) (n : Int) (w : World) (h : LogIn w a l.length cap l) (hz : worldErr p q r l safe ≠ 0) :
  Calls Tryz.prog 32 #[wdVal p q r (.slice a l.length cap) safe, .int .i64 n] w fun e w' => e = .returned (.tuple #[wdVal noPg noPg noPg (.slice none 0 0) 0, .int .i64 (worldErr p q r l safe)]) ∧ Ext w w' := by
 have E0 := ((Ext.refl w).alloc (.cells (wdCells p q r (.slice a l.length cap) safe) 38)).alloc (.cells (wdCells noPg noPg noPg (.slice none 0 0) 0) 38)
 have B0 := (Blk.new w w.heap.size (wdCells p q r (.slice a l.length cap) safe) 38 rfl).alloc (.cells (wdCells noPg noPg noPg (.slice none 0 0) 0) 38)
 have N0 := Blk.new (w.alloc (.cells (wdCells p q r (.slice a l.length cap) safe) 38)) (w.heap.size + 1) (wdCells noPg noPg noPg (.slice none 0 0) 0) 38 (by simp)
 have H := worldError_any p q r a l.length cap l safe _ (h.recs.ext E0) h.le h.max
 have hb : (worldErr p q r l safe != 0) = true := by simpa using hz
 generalize worldErr p q r l safe = we at *
 clear hz
 have b0 := B0.cell
 go_enter Tryz.func32, Tryz.ntmps32
 go_wp2_with fail
 refine H.mono ?_
 rintro e w1 ⟨rfl, hE⟩
 have E := E0.trans hE
 have B := B0.ext hE
 have N := N0.ext hE
 clear H b0 B0 N0 E0 hE
 have n_ := N.cell
 have f_ := N.fr
 have E9 := put14_ext E (w.heap.size + 1) (by omega) (.int .i64 0) (.int .i64 0) (.int .i64 0) (.int .i64 0) (.int .i64 0) (.int .i64 0) (.int .i64 0) (.int .i64 0) (.int .i64 0) (.int .i64 0) (.int .i64 0) (.int .i64 0) (.slice none 0 0) (.int .i64 0)
 go_wp2_with fail
 refine bodyPost_ret (v := .tuple #[.agg (wdCells noPg noPg noPg (.slice none 0 0) 0), .int .i64 we]) (by simp [results, Tryz.results32, go_sem, n_]) rfl ⟨rfl, ?_⟩
 exact E9
theorem flushOf_w (p q r : Pg) (a : Option Addr) (cap : Nat) (l : List Rc) (safe : Int) (x : Int) (w : World) (h : LogIn w a l.length cap l) (hz : worldErr p q r l safe ≠ 0) :
  Calls Tryz.prog 33 #[wdVal p q r (.slice a l.length cap) safe, .int .i64 x] w fun e w' => e = .returned (.tuple #[wdVal noPg noPg noPg (.slice none 0 0) 0, .int .i64 (worldErr p q r l safe)]) ∧ Ext w w' := by
 have E0 := ((Ext.refl w).alloc (.cells (wdCells p q r (.slice a l.length cap) safe) 38)).alloc (.cells (wdCells noPg noPg noPg (.slice none 0 0) 0) 38)
 have B0 := (Blk.new w w.heap.size (wdCells p q r (.slice a l.length cap) safe) 38 rfl).alloc (.cells (wdCells noPg noPg noPg (.slice none 0 0) 0) 38)
 have N0 := Blk.new (w.alloc (.cells (wdCells p q r (.slice a l.length cap) safe) 38)) (w.heap.size + 1) (wdCells noPg noPg noPg (.slice none 0 0) 0) 38 (by simp)
 have H := worldError_any p q r a l.length cap l safe _ (h.recs.ext E0) h.le h.max
 have hb : (worldErr p q r l safe != 0) = true := by simpa using hz
 generalize worldErr p q r l safe = we at *
 clear hz
 have b0 := B0.cell
 go_enter Tryz.func33, Tryz.ntmps33
 go_wp2_with fail
 refine H.mono ?_
 rintro e w1 ⟨rfl, hE⟩
 have E := E0.trans hE
 have B := B0.ext hE
 have N := N0.ext hE
 clear H b0 B0 N0 E0 hE
 have n_ := N.cell
 have f_ := N.fr
 have E9 := put14_ext E (w.heap.size + 1) (by omega) (.int .i64 0) (.int .i64 0) (.int .i64 0) (.int .i64 0) (.int .i64 0) (.int .i64 0) (.int .i64 0) (.int .i64 0) (.int .i64 0) (.int .i64 0) (.int .i64 0) (.int .i64 0) (.slice none 0 0) (.int .i64 0)
 go_wp2_with fail
 refine bodyPost_ret (v := .tuple #[.agg (wdCells noPg noPg noPg (.slice none 0 0) 0), .int .i64 we]) (by simp [results, Tryz.results33, go_sem, n_]) rfl ⟨rfl, ?_⟩
 exact E9
theorem syncOf_3 (p q r : Pg) (a : Option Addr) (cap : Nat) (l : List Rc) (safe : Int) (n : Int) (w : World) (h : LogIn w a l.length cap l) (hz : worldErr p q r l safe = 0) (hn : wi n 0 (l.length : Nat) = false) :
  Calls Tryz.prog 32 #[wdVal p q r (.slice a l.length cap) safe, .int .i64 n] w fun e w' => e = .returned (.tuple #[wdVal noPg noPg noPg (.slice none 0 0) 0, .int .i64 3]) ∧ Ext w w' := by
 have E0 := ((Ext.refl w).alloc (.cells (wdCells p q r (.slice a l.length cap) safe) 38)).alloc (.cells (wdCells noPg noPg noPg (.slice none 0 0) 0) 38)
 have B0 := (Blk.new w w.heap.size (wdCells p q r (.slice a l.length cap) safe) 38 rfl).alloc (.cells (wdCells noPg noPg noPg (.slice none 0 0) 0) 38)
 have N0 := Blk.new (w.alloc (.cells (wdCells p q r (.slice a l.length cap) safe) 38)) (w.heap.size + 1) (wdCells noPg noPg noPg (.slice none 0 0) 0) 38 (by simp)
 have H := worldError_any p q r a l.length cap l safe _ (h.recs.ext E0) h.le h.max
 rw [hz] at H
 clear hz
 have b0 := B0.cell
 go_enter Tryz.func32, Tryz.ntmps32
 go_wp2_with fail
 refine H.mono ?_
 rintro e w1 ⟨rfl, hE⟩
 have E := E0.trans hE
 have B := B0.ext hE
 have N := N0.ext hE
 clear H b0 B0 N0 E0 hE
 have b1 := B.cell
 go_wp2_with fail
 refine (within_any n 0 (l.length : Nat) _).mono ?_
 rintro e w2 ⟨rfl, rfl⟩
 rw [hn]
 have n_ := N.cell
 have f_ := N.fr
 have E9 := put14_ext E (w.heap.size + 1) (by omega) (.int .i64 0) (.int .i64 0) (.int .i64 0) (.int .i64 0) (.int .i64 0) (.int .i64 0) (.int .i64 0) (.int .i64 0) (.int .i64 0) (.int .i64 0) (.int .i64 0) (.int .i64 0) (.slice none 0 0) (.int .i64 0)
 go_wp2_with fail
 refine bodyPost_ret (v := .tuple #[.agg (wdCells noPg noPg noPg (.slice none 0 0) 0), .int .i64 3]) (by simp [results, Tryz.results32, go_sem, n_]) rfl ⟨rfl, ?_⟩
 exact E9
theorem flushOf_3 (p q r : Pg) (a : Option Addr) (cap : Nat) (l : List Rc) (safe : Int) (x : Int) (w : World) (h : LogIn w a l.length cap l) (hz : worldErr p q r l safe = 0) (hn : wi x 0 2 = false) :
  Calls Tryz.prog 33 #[wdVal p q r (.slice a l.length cap) safe, .int .i64 x] w fun e w' => e = .returned (.tuple #[wdVal noPg noPg noPg (.slice none 0 0) 0, .int .i64 3]) ∧ Ext w w' := by
 have E0 := ((Ext.refl w).alloc (.cells (wdCells p q r (.slice a l.length cap) safe) 38)).alloc (.cells (wdCells noPg noPg noPg (.slice none 0 0) 0) 38)
 have B0 := (Blk.new w w.heap.size (wdCells p q r (.slice a l.length cap) safe) 38 rfl).alloc (.cells (wdCells noPg noPg noPg (.slice none 0 0) 0) 38)
 have N0 := Blk.new (w.alloc (.cells (wdCells p q r (.slice a l.length cap) safe) 38)) (w.heap.size + 1) (wdCells noPg noPg noPg (.slice none 0 0) 0) 38 (by simp)
 have H := worldError_any p q r a l.length cap l safe _ (h.recs.ext E0) h.le h.max
 rw [hz] at H
 clear hz
 have b0 := B0.cell
 go_enter Tryz.func33, Tryz.ntmps33
 go_wp2_with fail
 refine H.mono ?_
 rintro e w1 ⟨rfl, hE⟩
 have E := E0.trans hE
 have B := B0.ext hE
 have N := N0.ext hE
 clear H b0 B0 N0 E0 hE
 go_wp2_with fail
 refine (within_any x 0 2 _).mono ?_
 rintro e w2 ⟨rfl, rfl⟩
 rw [hn]
 have n_ := N.cell
 have f_ := N.fr
 have E9 := put14_ext E (w.heap.size + 1) (by omega) (.int .i64 0) (.int .i64 0) (.int .i64 0) (.int .i64 0) (.int .i64 0) (.int .i64 0) (.int .i64 0) (.int .i64 0) (.int .i64 0) (.int .i64 0) (.int .i64 0) (.int .i64 0) (.slice none 0 0) (.int .i64 0)
 go_wp2_with fail
 refine bodyPost_ret (v := .tuple #[.agg (wdCells noPg noPg noPg (.slice none 0 0) 0), .int .i64 3]) (by simp [results, Tryz.results33, go_sem, n_]) rfl ⟨rfl, ?_⟩
 exact E9
theorem syncOf_0a (p q r : Pg) (a : Option Addr) (cap : Nat) (l : List Rc) (safe : Int) (n : Int) (w : World) (h : LogIn w a l.length cap l) (hz : worldErr p q r l safe = 0) (hn : wi n 0 (l.length : Nat) = true) (hl60 : l.length ≤ 60) (hlt : safe < n) :
  Calls Tryz.prog 32 #[wdVal p q r (.slice a l.length cap) safe, .int .i64 n] w fun e w' => ∃ a' cap', e = .returned (.tuple #[wdVal p q r (.slice a' l.length cap') (n), .int .i64 0]) ∧ Ext w w' ∧ LogIn w' a' l.length cap' l ∧ ∀ ad, a' = some ad → w.heap.size ≤ ad.block := by
 have E0 := ((Ext.refl w).alloc (.cells (wdCells p q r (.slice a l.length cap) safe) 38)).alloc (.cells (wdCells noPg noPg noPg (.slice none 0 0) 0) 38)
 have B0 := (Blk.new w w.heap.size (wdCells p q r (.slice a l.length cap) safe) 38 rfl).alloc (.cells (wdCells noPg noPg noPg (.slice none 0 0) 0) 38)
 have N0 := Blk.new (w.alloc (.cells (wdCells p q r (.slice a l.length cap) safe) 38)) (w.heap.size + 1) (wdCells noPg noPg noPg (.slice none 0 0) 0) 38 (by simp)
 have H := worldError_any p q r a l.length cap l safe _ (h.recs.ext E0) h.le h.max
 rw [hz] at H
 clear hz
 have b0 := B0.cell
 go_enter Tryz.func32, Tryz.ntmps32
 go_wp2_with fail
 refine H.mono ?_
 rintro e w1 ⟨rfl, hE⟩
 have E := E0.trans hE
 have B := B0.ext hE
 have N := N0.ext hE
 clear H b0 B0 N0 E0 hE
 have b1 := B.cell
 go_wp2_with fail
 refine (within_any n 0 (l.length : Nat) _).mono ?_
 rintro e w2 ⟨rfl, rfl⟩
 rw [hn]
 go_wp2_with fail
 refine (ownWorld_any p q r a l.length cap l safe _ (h.ext E) hl60).mono ?_
 rintro e w4 ⟨a', cap', rfl, hw, hown⟩
 have hd4 : w2.heap.size ≤ w4.heap.size := hw.size
 have hn4 : w.heap.size + 1 < w2.heap.size := N.lt
 have hb4 : w.heap.size < w2.heap.size := B.lt
 have hEs := E.size
 have E6 := (E.trans hw).alloc (.cells (wdCells p q r (.slice a' l.length cap') n) 38)
 have B6 := (B.ext hw).alloc (.cells (wdCells p q r (.slice a' l.length cap') n) 38)
 have N6 := (N.ext hw).alloc (.cells (wdCells p q r (.slice a' l.length cap') n) 38)
 have D6 := Blk.new w4 w4.heap.size (wdCells p q r (.slice a' l.length cap') n) 38 rfl
 have own6 := own_ext hown ((Ext.refl w4).alloc (.cells (wdCells p q r (.slice a' l.length cap') n) 38))
 have b4 := ((B.ext hw).alloc (.cells (wdCells p q r (.slice a' l.length cap') safe) 38)).cell
 clear b1 hw hown
 have E9 := put14_ext E6 (w.heap.size + 1) (by omega) (.int .i64 p.c0) (.int .i64 p.c1) (.int .i64 p.c2) (.int .i64 p.last) (.int .i64 q.c0) (.int .i64 q.c1) (.int .i64 q.c2) (.int .i64 q.last) (.int .i64 r.c0) (.int .i64 r.c1) (.int .i64 r.c2) (.int .i64 r.last) (.slice a' l.length cap') (.int .i64 n)
 have G9 := put14_gr (w4.alloc (.cells (wdCells p q r (.slice a' l.length cap') n) 38)) (w.heap.size + 1) (.int .i64 p.c0) (.int .i64 p.c1) (.int .i64 p.c2) (.int .i64 p.last) (.int .i64 q.c0) (.int .i64 q.c1) (.int .i64 q.c2) (.int .i64 q.last) (.int .i64 r.c0) (.int .i64 r.c1) (.int .i64 r.c2) (.int .i64 r.last) (.slice a' l.length cap') (.int .i64 n)
 have own9 := own_gr own6 G9 (fun k hk e => by injection e with e; have := own_from own6 k hk; omega)
 have HIn := (show Hid _ from own_in2 own9 hl60)
 have HFrom : Hid (∀ ad, a' = some ad → w.heap.size ≤ ad.block) := fun ad e => by have := own_from own6 ad.block (by rw [e]; rfl); omega
 have dd := D6.cell
 have nn := N6.cell
 have ff := N6.fr
 have hne : w4.heap.size ≠ w.heap.size + 1 := by omega
 clear own9 G9
 go_wp2_with fail
 refine bodyPost_ret (v := .tuple #[.agg (wdCells p q r (.slice a' l.length cap') n), .int .i64 0]) (by simp [results, Tryz.results32, go_sem, nn]) rfl ⟨a', cap', rfl, ?_, ?_, HFrom.out⟩
 ·exact E9
 ·exact HIn.out
theorem syncOf_0b (p q r : Pg) (a : Option Addr) (cap : Nat) (l : List Rc) (safe : Int) (n : Int) (w : World) (h : LogIn w a l.length cap l) (hz : worldErr p q r l safe = 0) (hn : wi n 0 (l.length : Nat) = true) (hl60 : l.length ≤ 60) (hlt : ¬ safe < n) :
  Calls Tryz.prog 32 #[wdVal p q r (.slice a l.length cap) safe, .int .i64 n] w fun e w' => ∃ a' cap', e = .returned (.tuple #[wdVal p q r (.slice a' l.length cap') (safe), .int .i64 0]) ∧ Ext w w' ∧ LogIn w' a' l.length cap' l ∧ ∀ ad, a' = some ad → w.heap.size ≤ ad.block := by
 have E0 := ((Ext.refl w).alloc (.cells (wdCells p q r (.slice a l.length cap) safe) 38)).alloc (.cells (wdCells noPg noPg noPg (.slice none 0 0) 0) 38)
 have B0 := (Blk.new w w.heap.size (wdCells p q r (.slice a l.length cap) safe) 38 rfl).alloc (.cells (wdCells noPg noPg noPg (.slice none 0 0) 0) 38)
 have N0 := Blk.new (w.alloc (.cells (wdCells p q r (.slice a l.length cap) safe) 38)) (w.heap.size + 1) (wdCells noPg noPg noPg (.slice none 0 0) 0) 38 (by simp)
 have H := worldError_any p q r a l.length cap l safe _ (h.recs.ext E0) h.le h.max
 rw [hz] at H
 clear hz
 have b0 := B0.cell
 go_enter Tryz.func32, Tryz.ntmps32
 go_wp2_with fail
 refine H.mono ?_
 rintro e w1 ⟨rfl, hE⟩
 have E := E0.trans hE
 have B := B0.ext hE
 have N := N0.ext hE
 clear H b0 B0 N0 E0 hE
 have b1 := B.cell
 go_wp2_with fail
 refine (within_any n 0 (l.length : Nat) _).mono ?_
 rintro e w2 ⟨rfl, rfl⟩
 rw [hn]
 go_wp2_with fail
 refine (ownWorld_any p q r a l.length cap l safe _ (h.ext E) hl60).mono ?_
 rintro e w4 ⟨a', cap', rfl, hw, hown⟩
 have hd4 : w2.heap.size ≤ w4.heap.size := hw.size
 have hn4 : w.heap.size + 1 < w2.heap.size := N.lt
 have hb4 : w.heap.size < w2.heap.size := B.lt
 have hEs := E.size
 have E6 := (E.trans hw).alloc (.cells (wdCells p q r (.slice a' l.length cap') safe) 38)
 have B6 := (B.ext hw).alloc (.cells (wdCells p q r (.slice a' l.length cap') safe) 38)
 have N6 := (N.ext hw).alloc (.cells (wdCells p q r (.slice a' l.length cap') safe) 38)
 have D6 := Blk.new w4 w4.heap.size (wdCells p q r (.slice a' l.length cap') safe) 38 rfl
 have own6 := own_ext hown ((Ext.refl w4).alloc (.cells (wdCells p q r (.slice a' l.length cap') safe) 38))
 have b4 := ((B.ext hw).alloc (.cells (wdCells p q r (.slice a' l.length cap') safe) 38)).cell
 clear b1 hw hown
 have E9 := put14_ext E6 (w.heap.size + 1) (by omega) (.int .i64 p.c0) (.int .i64 p.c1) (.int .i64 p.c2) (.int .i64 p.last) (.int .i64 q.c0) (.int .i64 q.c1) (.int .i64 q.c2) (.int .i64 q.last) (.int .i64 r.c0) (.int .i64 r.c1) (.int .i64 r.c2) (.int .i64 r.last) (.slice a' l.length cap') (.int .i64 safe)
 have G9 := put14_gr (w4.alloc (.cells (wdCells p q r (.slice a' l.length cap') safe) 38)) (w.heap.size + 1) (.int .i64 p.c0) (.int .i64 p.c1) (.int .i64 p.c2) (.int .i64 p.last) (.int .i64 q.c0) (.int .i64 q.c1) (.int .i64 q.c2) (.int .i64 q.last) (.int .i64 r.c0) (.int .i64 r.c1) (.int .i64 r.c2) (.int .i64 r.last) (.slice a' l.length cap') (.int .i64 safe)
 have own9 := own_gr own6 G9 (fun k hk e => by injection e with e; have := own_from own6 k hk; omega)
 have HIn := (show Hid _ from own_in2 own9 hl60)
 have HFrom : Hid (∀ ad, a' = some ad → w.heap.size ≤ ad.block) := fun ad e => by have := own_from own6 ad.block (by rw [e]; rfl); omega
 have dd := D6.cell
 have nn := N6.cell
 have ff := N6.fr
 have hne : w4.heap.size ≠ w.heap.size + 1 := by omega
 clear own9 G9
 go_wp2_with fail
 refine bodyPost_ret (v := .tuple #[.agg (wdCells p q r (.slice a' l.length cap') safe), .int .i64 0]) (by simp [results, Tryz.results32, go_sem, nn]) rfl ⟨a', cap', rfl, ?_, ?_, HFrom.out⟩
 ·exact E9
 ·exact HIn.out
end Go.Proofs.YtibfgbmhmdggmaaGreatDoor.B
