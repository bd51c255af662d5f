/- To the disk, as plain functions; the contracts of the desk's Secure and Lay, and of the flush's Sync and Page. · What lies on the disk is told by the safe log: pages that are laid, and more that is safe. No Go in sight. Looking through, as plain functions of a log and the pages that lie on the disk: what Redo tells. No Go in sight. Worlds behind a crash, and mended, half or all: right, and what must be. No Go in sight. Acts, as plain functions of a world: what each leaves; right worlds stay right, what is safe stays; who has won stays so; who has not is gone behind a crash. No Go in sight. -/
import Derived.Test.YtibfgbmhmdggmaaGreatDoorPlainA
namespace Go.Proofs.YtibfgbmhmdggmaaGreatDoor.B
set_option maxHeartbeats 32000000
set_option maxRecDepth 100000
open Go.ChangeShapes Go.WideShapes Go.ChangeAt Go.RowKit
def syncErr (l : List Rc) (n : Int) : Int := if out 0 (l.length : Nat) [n] then 3 else 0
def pageErr (x : Int) : Int := if out 0 2 [x] then 3 else 0
def layPg (l : List Rc) (x : Int) (i : Nat) (d : Pg) : Pg := if x = (i : Nat) then pgAt (pagesR l) i else d
def maxI (a b : Int) : Int := if a < b then b else a
def laySafe (l : List Rc) (safe x : Int) : Int := maxI safe ((pagesR l).getD (x.toNat * 4 + 3) 0)
theorem maxI_lt {a b : Int} (h : a < b) : maxI a b = b := by unfold maxI; rw [if_pos h]
theorem maxI_ge {a b : Int} (h : ¬ a < b) : maxI a b = a := by unfold maxI; rw [if_neg h]
theorem secure_any {base db pb mt mh : Nat} {l : List Rc} {tx : List TxE} {ho : List HE} {p q s : Pg} {lv : Value} {safe : Int} (n : Int) (w : World) (h : DeskOk w base db pb mt mh l tx ho p q s lv safe) :
  Calls Tryz.prog 106 #[.pointer (some ⟨db, 0, none⟩), .int .i64 n] w fun e w' => e = .returned (.tuple #[]) ∧ Below base w w' ∧ DeskOk w' base db pb mt mh l tx ho p q s lv (maxI safe n) := by
 have hbase : base ≤ w.heap.size := Nat.le_trans h.ge (Nat.le_of_lt h.blk.lt)
 have c14 : w.cell? ⟨db, 14, none⟩ = some (.int .i64 safe) := by rw [h.blk.cell]; rfl
 have f14 := h.blk.fr 14
 by_cases hn : safe < n
 ·have HM : Hid (maxI safe n = n) := maxI_lt hn
  have hD := h.setSafe n
  have hB : Below base w (w.setCell ⟨db, 14, none⟩ (.int .i64 n)) := Below.setCell (Below.mono (Ext.refl w) hbase) h.ge _
  go_enter Tryz.func106, Tryz.ntmps106
  go_wp2_with fail
  refine bodyPost_end (results_none rfl _ _ _) rfl ?_
  exact ⟨rfl, hB, by rw [HM.out]; exact hD⟩
 ·have HM : Hid (maxI safe n = safe) := maxI_ge hn
  have hB : Below base w w := Below.mono (Ext.refl w) hbase
  go_enter Tryz.func106, Tryz.ntmps106
  go_wp2_with fail
  refine bodyPost_end (results_none rfl _ _ _) rfl ?_
  exact ⟨rfl, hB, by rw [HM.out]; exact h⟩
theorem DeskOk.lay0 {w : World} {base db pb mt mh : Nat} {l : List Rc} {tx : List TxE} {ho : List HE} {p q s : Pg} {lv : Value} {safe : Int} (h : DeskOk w base db pb mt mh l tx ho p q s lv safe) (x : Pg) :
  DeskOk ((((w.setCell ⟨db, 1, none⟩ (.int .i64 x.c0)).setCell ⟨db, 2, none⟩ (.int .i64 x.c1)).setCell ⟨db, 3, none⟩ (.int .i64 x.c2)).setCell ⟨db, 4, none⟩ (.int .i64 x.last)) base db pb mt mh l tx ho x q s lv safe := by
 obtain ⟨n1, n2, n3, n4, n5, _⟩ := h.apart
 have G : Gr (some db) w ((((w.setCell ⟨db, 1, none⟩ (.int .i64 x.c0)).setCell ⟨db, 2, none⟩ (.int .i64 x.c1)).setCell ⟨db, 3, none⟩ (.int .i64 x.c2)).setCell ⟨db, 4, none⟩ (.int .i64 x.last)) := ((((Gr.refl (some db) w).set (p := ⟨db, 1, none⟩) (Or.inr rfl) _).set (p := ⟨db, 2, none⟩) (Or.inr rfl) _).set (p := ⟨db, 3, none⟩) (Or.inr rfl) _).set (p := ⟨db, 4, none⟩) (Or.inr rfl) _
 refine ⟨(((h.blk.set 1 _).set 2 _).set 3 _).set 4 _, ?_, ?_, h.ge, h.free⟩
 ·refine h.book.gr G (fun e => n1 (by injection e with e; exact e.symm)) (fun e => n2 (by injection e with e; exact e.symm)) (fun e => n3 (by injection e with e; exact e.symm)) (fun t ht k hk e => ?_)
  injection e with e
  subst e
  exact n4 t ht hk
 ·exact own_gr h.own G (fun k hk e => by injection e with e; rw [e] at hk; exact n5 hk)
theorem lay0_any {base db pb mt mh : Nat} {l : List Rc} {tx : List TxE} {ho : List HE} {p q s : Pg} {lv : Value} {safe : Int} (bp : Nat) (w : World) (h : DeskOk w base db pb mt mh l tx ho p q s lv safe) (BP : Blk w bp #[.int .i64 0] 3) :
  Calls Tryz.prog 108 #[.pointer (some ⟨db, 0, none⟩), .slice (some ⟨bp, 0, none⟩) 1 1] w fun e w' => e = .returned (.int .i64 0) ∧ Below base w w' ∧ DeskOk w' base db pb mt mh l tx ho (pgAt (pagesR l) 0) q s lv (maxI safe (pgAt (pagesR l) 0).last) := by
 have hbase : base ≤ w.heap.size := Nat.le_trans h.ge (Nat.le_of_lt h.blk.lt)
 have KP : Hid (∀ w', BookOk w' base pb mt mh l tx ho → w'.cell? ⟨pb, 0, none⟩ = some (.int .i64 (pgAt (pagesR l) 0).c0) ∧ w'.cell? ⟨pb, 1, none⟩ = some (.int .i64 (pgAt (pagesR l) 0).c1) ∧ w'.cell? ⟨pb, 2, none⟩ = some (.int .i64 (pgAt (pagesR l) 0).c2) ∧ w'.cell? ⟨pb, 3, none⟩ = some (.int .i64 (pgAt (pagesR l) 0).last)) := fun w' hb => by
  refine ⟨?_, ?_, ?_, ?_⟩ <;> rw [hb.blk.cell, bookCells_page _ mt mh _ (pagesR_len l) _ (by decide)] <;> rfl
 generalize pgAt (pagesR l) 0 = x at *
 have HD := (show Hid (DeskOk w base db pb mt mh l tx ho p q s lv safe) from h)
 have bp0 := BP.cell
 go_enter Tryz.func108, Tryz.ntmps108
 go_wp2_with fail
 refine (outside_n 1 0 2 _ 0 1 [0] _ rfl (by decide) (cells1 (by simp [bp0]))).mono ?_
 rintro e w1 ⟨rfl, rfl⟩
 rw [show out 0 2 [0] = false from rfl]
 go_wp2_with fail
 go_loopw [11] (fun i wr => (i = .int .i64 0 ∧ wr = w1) ∨ (i = .int .i64 1 ∧ Below base w1 wr ∧ DeskOk wr base db pb mt mh l tx ho x q s lv (maxI safe x.last))) (fun i _ => 1 - (intOf i).toNat)
 case atStart => exact Or.inl ⟨rfl, rfl⟩
 case round =>
  rcases hrel with ⟨rfl, rfl⟩ | ⟨rfl, hB, hD⟩
  ·have c0 : wr.cell? ⟨db, 0, none⟩ = some (.pointer (some ⟨pb, 0, none⟩)) := by rw [h.blk.cell]; rfl
   obtain ⟨k0, k1, k2, k3⟩ := KP.out _ h.book
   go_wp2_with fail
   refine (secure_any x.last _ HD.out).mono ?_
   rintro e w2 ⟨rfl, hB2, hD2⟩
   clear c0 k0 k1 k2 k3
   go_wp2_with fail
   have D2d := hD2.ext (Ext.refl w2).drew
   have KC : Hid (∀ w' p' q' s' sf, DeskOk w' base db pb mt mh l tx ho p' q' s' lv sf → w'.cell? ⟨db, 0, none⟩ = some (.pointer (some ⟨pb, 0, none⟩)) ∧ w'.cell? ⟨pb, 0, none⟩ = some (.int .i64 x.c0) ∧ w'.cell? ⟨pb, 1, none⟩ = some (.int .i64 x.c1) ∧ w'.cell? ⟨pb, 2, none⟩ = some (.int .i64 x.c2) ∧ w'.cell? ⟨pb, 3, none⟩ = some (.int .i64 x.last)) := fun w' p' q' s' sf hd => ⟨by rw [hd.blk.cell]; rfl, KP.out w' hd.book⟩
   refine wp_region_held_drew (S := fun w' => w'.cell? ⟨db, 0, none⟩ = some (.pointer (some ⟨pb, 0, none⟩)) ∧ w'.cell? ⟨pb, 0, none⟩ = some (.int .i64 x.c0) ∧ w'.cell? ⟨pb, 1, none⟩ = some (.int .i64 x.c1) ∧ w'.cell? ⟨pb, 2, none⟩ = some (.int .i64 x.c2) ∧ w'.cell? ⟨pb, 3, none⟩ = some (.int .i64 x.last)) (by kernel_rfl) (KC.out _ _ _ _ _ D2d) (fun hHeld => ?_)
   refine tkn 0 rfl hHeld ?_
   simp only [Act.put]
   refine tkn 1 rfl hHeld ?_
   simp only [Act.put]
   refine tkn 2 rfl hHeld ?_
   simp only [Act.put]
   refine tkn 3 rfl hHeld ?_
   simp only [Act.put]
   refine tkn 4 rfl hHeld ?_
   simp only [Act.put]
   refine tkn 5 rfl hHeld ?_
   simp only [Act.put]
   refine tkn 6 rfl hHeld ?_
   simp only [Act.put]
   refine tkn 7 rfl hHeld ?_
   simp only [Act.put]
   refine tkn 8 rfl hHeld ?_
   simp only [Act.put]
   refine tkn 9 rfl hHeld ?_
   simp only [Act.put]
   refine tkn 10 rfl hHeld ?_
   simp only [Act.put]
   refine tkn 11 rfl hHeld ?_
   simp only [Act.put]
   refine tkn 12 rfl hHeld ?_
   simp only [Act.put]
   refine tkn 13 rfl hHeld ?_
   simp only [Act.put]
   have dc := hD2.blk.cell
   have df := hD2.blk.fr
   refine exn 14 rfl fun K hK => ?_
   go_simp
   have D3 := hD2.lay0 x
   have B3 : Below base wr ((((w2.setCell ⟨db, 1, none⟩ (.int .i64 x.c0)).setCell ⟨db, 2, none⟩ (.int .i64 x.c1)).setCell ⟨db, 3, none⟩ (.int .i64 x.c2)).setCell ⟨db, 4, none⟩ (.int .i64 x.last)) := Below.setCell (p := ⟨db, 4, none⟩) (Below.setCell (p := ⟨db, 3, none⟩) (Below.setCell (p := ⟨db, 2, none⟩) (Below.setCell (p := ⟨db, 1, none⟩) hB2 hD2.ge _) hD2.ge _) hD2.ge _) hD2.ge _
   clear hHeld dc df
   refine hK.out _ _ (KC.out _ _ _ _ _ (D3.ext (Ext.refl _).drew)) (fun hHeld => ?_)
   clear hK K
   refine wpAnyH_done (by kernel_rfl) ?_ _
   clear hHeld
   go_wp2_with fail
   go_roundw
   case rel => exact Or.inr ⟨rfl, Below.drew B3, D3.ext (Ext.refl _).drew⟩
   case measure => simp [intOf]
  ·go_wp2_with fail
   go_ret
   exact ⟨rfl, hB, hD⟩
theorem DeskOk.lay1 {w : World} {base db pb mt mh : Nat} {l : List Rc} {tx : List TxE} {ho : List HE} {p q s : Pg} {lv : Value} {safe : Int} (h : DeskOk w base db pb mt mh l tx ho p q s lv safe) (x : Pg) :
  DeskOk ((((w.setCell ⟨db, 5, none⟩ (.int .i64 x.c0)).setCell ⟨db, 6, none⟩ (.int .i64 x.c1)).setCell ⟨db, 7, none⟩ (.int .i64 x.c2)).setCell ⟨db, 8, none⟩ (.int .i64 x.last)) base db pb mt mh l tx ho p x s lv safe := by
 obtain ⟨n1, n2, n3, n4, n5, _⟩ := h.apart
 have G : Gr (some db) w ((((w.setCell ⟨db, 5, none⟩ (.int .i64 x.c0)).setCell ⟨db, 6, none⟩ (.int .i64 x.c1)).setCell ⟨db, 7, none⟩ (.int .i64 x.c2)).setCell ⟨db, 8, none⟩ (.int .i64 x.last)) := ((((Gr.refl (some db) w).set (p := ⟨db, 5, none⟩) (Or.inr rfl) _).set (p := ⟨db, 6, none⟩) (Or.inr rfl) _).set (p := ⟨db, 7, none⟩) (Or.inr rfl) _).set (p := ⟨db, 8, none⟩) (Or.inr rfl) _
 refine ⟨(((h.blk.set 5 _).set 6 _).set 7 _).set 8 _, ?_, ?_, h.ge, h.free⟩
 ·refine h.book.gr G (fun e => n1 (by injection e with e; exact e.symm)) (fun e => n2 (by injection e with e; exact e.symm)) (fun e => n3 (by injection e with e; exact e.symm)) (fun t ht k hk e => ?_)
  injection e with e
  subst e
  exact n4 t ht hk
 ·exact own_gr h.own G (fun k hk e => by injection e with e; rw [e] at hk; exact n5 hk)
theorem lay1_any {base db pb mt mh : Nat} {l : List Rc} {tx : List TxE} {ho : List HE} {p q s : Pg} {lv : Value} {safe : Int} (bp : Nat) (w : World) (h : DeskOk w base db pb mt mh l tx ho p q s lv safe) (BP : Blk w bp #[.int .i64 1] 3) :
  Calls Tryz.prog 108 #[.pointer (some ⟨db, 0, none⟩), .slice (some ⟨bp, 0, none⟩) 1 1] w fun e w' => e = .returned (.int .i64 0) ∧ Below base w w' ∧ DeskOk w' base db pb mt mh l tx ho p (pgAt (pagesR l) 1) s lv (maxI safe (pgAt (pagesR l) 1).last) := by
 have hbase : base ≤ w.heap.size := Nat.le_trans h.ge (Nat.le_of_lt h.blk.lt)
 have KP : Hid (∀ w', BookOk w' base pb mt mh l tx ho → w'.cell? ⟨pb, 4, none⟩ = some (.int .i64 (pgAt (pagesR l) 1).c0) ∧ w'.cell? ⟨pb, 5, none⟩ = some (.int .i64 (pgAt (pagesR l) 1).c1) ∧ w'.cell? ⟨pb, 6, none⟩ = some (.int .i64 (pgAt (pagesR l) 1).c2) ∧ w'.cell? ⟨pb, 7, none⟩ = some (.int .i64 (pgAt (pagesR l) 1).last)) := fun w' hb => by
  refine ⟨?_, ?_, ?_, ?_⟩ <;> rw [hb.blk.cell, bookCells_page _ mt mh _ (pagesR_len l) _ (by decide)] <;> rfl
 generalize pgAt (pagesR l) 1 = x at *
 have HD := (show Hid (DeskOk w base db pb mt mh l tx ho p q s lv safe) from h)
 have bp0 := BP.cell
 go_enter Tryz.func108, Tryz.ntmps108
 go_wp2_with fail
 refine (outside_n 1 0 2 _ 0 1 [1] _ rfl (by decide) (cells1 (by simp [bp0]))).mono ?_
 rintro e w1 ⟨rfl, rfl⟩
 rw [show out 0 2 [1] = false from rfl]
 go_wp2_with fail
 go_loopw [11] (fun i wr => (i = .int .i64 0 ∧ wr = w1) ∨ (i = .int .i64 1 ∧ Below base w1 wr ∧ DeskOk wr base db pb mt mh l tx ho p x s lv (maxI safe x.last))) (fun i _ => 1 - (intOf i).toNat)
 case atStart => exact Or.inl ⟨rfl, rfl⟩
 case round =>
  rcases hrel with ⟨rfl, rfl⟩ | ⟨rfl, hB, hD⟩
  ·have c0 : wr.cell? ⟨db, 0, none⟩ = some (.pointer (some ⟨pb, 0, none⟩)) := by rw [h.blk.cell]; rfl
   obtain ⟨k0, k1, k2, k3⟩ := KP.out _ h.book
   go_wp2_with fail
   refine (secure_any x.last _ HD.out).mono ?_
   rintro e w2 ⟨rfl, hB2, hD2⟩
   clear c0 k0 k1 k2 k3
   go_wp2_with fail
   have D2d := hD2.ext (Ext.refl w2).drew
   have KC : Hid (∀ w' p' q' s' sf, DeskOk w' base db pb mt mh l tx ho p' q' s' lv sf → w'.cell? ⟨db, 0, none⟩ = some (.pointer (some ⟨pb, 0, none⟩)) ∧ w'.cell? ⟨pb, 4, none⟩ = some (.int .i64 x.c0) ∧ w'.cell? ⟨pb, 5, none⟩ = some (.int .i64 x.c1) ∧ w'.cell? ⟨pb, 6, none⟩ = some (.int .i64 x.c2) ∧ w'.cell? ⟨pb, 7, none⟩ = some (.int .i64 x.last)) := fun w' p' q' s' sf hd => ⟨by rw [hd.blk.cell]; rfl, KP.out w' hd.book⟩
   refine wp_region_held_drew (S := fun w' => w'.cell? ⟨db, 0, none⟩ = some (.pointer (some ⟨pb, 0, none⟩)) ∧ w'.cell? ⟨pb, 4, none⟩ = some (.int .i64 x.c0) ∧ w'.cell? ⟨pb, 5, none⟩ = some (.int .i64 x.c1) ∧ w'.cell? ⟨pb, 6, none⟩ = some (.int .i64 x.c2) ∧ w'.cell? ⟨pb, 7, none⟩ = some (.int .i64 x.last)) (by kernel_rfl) (KC.out _ _ _ _ _ D2d) (fun hHeld => ?_)
   refine tkn 0 rfl hHeld ?_
   simp only [Act.put]
   refine tkn 1 rfl hHeld ?_
   simp only [Act.put]
   refine tkn 2 rfl hHeld ?_
   simp only [Act.put]
   refine tkn 3 rfl hHeld ?_
   simp only [Act.put]
   refine tkn 4 rfl hHeld ?_
   simp only [Act.put]
   refine tkn 5 rfl hHeld ?_
   simp only [Act.put]
   refine tkn 6 rfl hHeld ?_
   simp only [Act.put]
   refine tkn 7 rfl hHeld ?_
   simp only [Act.put]
   refine tkn 8 rfl hHeld ?_
   simp only [Act.put]
   refine tkn 9 rfl hHeld ?_
   simp only [Act.put]
   refine tkn 10 rfl hHeld ?_
   simp only [Act.put]
   refine tkn 11 rfl hHeld ?_
   simp only [Act.put]
   refine tkn 12 rfl hHeld ?_
   simp only [Act.put]
   refine tkn 13 rfl hHeld ?_
   simp only [Act.put]
   have dc := hD2.blk.cell
   have df := hD2.blk.fr
   refine exn 14 rfl fun K hK => ?_
   go_simp
   have D3 := hD2.lay1 x
   have B3 : Below base wr ((((w2.setCell ⟨db, 5, none⟩ (.int .i64 x.c0)).setCell ⟨db, 6, none⟩ (.int .i64 x.c1)).setCell ⟨db, 7, none⟩ (.int .i64 x.c2)).setCell ⟨db, 8, none⟩ (.int .i64 x.last)) := Below.setCell (p := ⟨db, 8, none⟩) (Below.setCell (p := ⟨db, 7, none⟩) (Below.setCell (p := ⟨db, 6, none⟩) (Below.setCell (p := ⟨db, 5, none⟩) hB2 hD2.ge _) hD2.ge _) hD2.ge _) hD2.ge _
   clear hHeld dc df
   refine hK.out _ _ (KC.out _ _ _ _ _ (D3.ext (Ext.refl _).drew)) (fun hHeld => ?_)
   clear hK K
   refine wpAnyH_done (by kernel_rfl) ?_ _
   clear hHeld
   go_wp2_with fail
   go_roundw
   case rel => exact Or.inr ⟨rfl, Below.drew B3, D3.ext (Ext.refl _).drew⟩
   case measure => simp [intOf]
  ·go_wp2_with fail
   go_ret
   exact ⟨rfl, hB, hD⟩
theorem DeskOk.lay2 {w : World} {base db pb mt mh : Nat} {l : List Rc} {tx : List TxE} {ho : List HE} {p q s : Pg} {lv : Value} {safe : Int} (h : DeskOk w base db pb mt mh l tx ho p q s lv safe) (x : Pg) :
  DeskOk ((((w.setCell ⟨db, 9, none⟩ (.int .i64 x.c0)).setCell ⟨db, 10, none⟩ (.int .i64 x.c1)).setCell ⟨db, 11, none⟩ (.int .i64 x.c2)).setCell ⟨db, 12, none⟩ (.int .i64 x.last)) base db pb mt mh l tx ho p q x lv safe := by
 obtain ⟨n1, n2, n3, n4, n5, _⟩ := h.apart
 have G : Gr (some db) w ((((w.setCell ⟨db, 9, none⟩ (.int .i64 x.c0)).setCell ⟨db, 10, none⟩ (.int .i64 x.c1)).setCell ⟨db, 11, none⟩ (.int .i64 x.c2)).setCell ⟨db, 12, none⟩ (.int .i64 x.last)) := ((((Gr.refl (some db) w).set (p := ⟨db, 9, none⟩) (Or.inr rfl) _).set (p := ⟨db, 10, none⟩) (Or.inr rfl) _).set (p := ⟨db, 11, none⟩) (Or.inr rfl) _).set (p := ⟨db, 12, none⟩) (Or.inr rfl) _
 refine ⟨(((h.blk.set 9 _).set 10 _).set 11 _).set 12 _, ?_, ?_, h.ge, h.free⟩
 ·refine h.book.gr G (fun e => n1 (by injection e with e; exact e.symm)) (fun e => n2 (by injection e with e; exact e.symm)) (fun e => n3 (by injection e with e; exact e.symm)) (fun t ht k hk e => ?_)
  injection e with e
  subst e
  exact n4 t ht hk
 ·exact own_gr h.own G (fun k hk e => by injection e with e; rw [e] at hk; exact n5 hk)
theorem lay2_any {base db pb mt mh : Nat} {l : List Rc} {tx : List TxE} {ho : List HE} {p q s : Pg} {lv : Value} {safe : Int} (bp : Nat) (w : World) (h : DeskOk w base db pb mt mh l tx ho p q s lv safe) (BP : Blk w bp #[.int .i64 2] 3) :
  Calls Tryz.prog 108 #[.pointer (some ⟨db, 0, none⟩), .slice (some ⟨bp, 0, none⟩) 1 1] w fun e w' => e = .returned (.int .i64 0) ∧ Below base w w' ∧ DeskOk w' base db pb mt mh l tx ho p q (pgAt (pagesR l) 2) lv (maxI safe (pgAt (pagesR l) 2).last) := by
 have hbase : base ≤ w.heap.size := Nat.le_trans h.ge (Nat.le_of_lt h.blk.lt)
 have KP : Hid (∀ w', BookOk w' base pb mt mh l tx ho → w'.cell? ⟨pb, 8, none⟩ = some (.int .i64 (pgAt (pagesR l) 2).c0) ∧ w'.cell? ⟨pb, 9, none⟩ = some (.int .i64 (pgAt (pagesR l) 2).c1) ∧ w'.cell? ⟨pb, 10, none⟩ = some (.int .i64 (pgAt (pagesR l) 2).c2) ∧ w'.cell? ⟨pb, 11, none⟩ = some (.int .i64 (pgAt (pagesR l) 2).last)) := fun w' hb => by
  refine ⟨?_, ?_, ?_, ?_⟩ <;> rw [hb.blk.cell, bookCells_page _ mt mh _ (pagesR_len l) _ (by decide)] <;> rfl
 generalize pgAt (pagesR l) 2 = x at *
 have HD := (show Hid (DeskOk w base db pb mt mh l tx ho p q s lv safe) from h)
 have bp0 := BP.cell
 go_enter Tryz.func108, Tryz.ntmps108
 go_wp2_with fail
 refine (outside_n 1 0 2 _ 0 1 [2] _ rfl (by decide) (cells1 (by simp [bp0]))).mono ?_
 rintro e w1 ⟨rfl, rfl⟩
 rw [show out 0 2 [2] = false from rfl]
 go_wp2_with fail
 go_loopw [11] (fun i wr => (i = .int .i64 0 ∧ wr = w1) ∨ (i = .int .i64 1 ∧ Below base w1 wr ∧ DeskOk wr base db pb mt mh l tx ho p q x lv (maxI safe x.last))) (fun i _ => 1 - (intOf i).toNat)
 case atStart => exact Or.inl ⟨rfl, rfl⟩
 case round =>
  rcases hrel with ⟨rfl, rfl⟩ | ⟨rfl, hB, hD⟩
  ·have c0 : wr.cell? ⟨db, 0, none⟩ = some (.pointer (some ⟨pb, 0, none⟩)) := by rw [h.blk.cell]; rfl
   obtain ⟨k0, k1, k2, k3⟩ := KP.out _ h.book
   go_wp2_with fail
   refine (secure_any x.last _ HD.out).mono ?_
   rintro e w2 ⟨rfl, hB2, hD2⟩
   clear c0 k0 k1 k2 k3
   go_wp2_with fail
   have D2d := hD2.ext (Ext.refl w2).drew
   have KC : Hid (∀ w' p' q' s' sf, DeskOk w' base db pb mt mh l tx ho p' q' s' lv sf → w'.cell? ⟨db, 0, none⟩ = some (.pointer (some ⟨pb, 0, none⟩)) ∧ w'.cell? ⟨pb, 8, none⟩ = some (.int .i64 x.c0) ∧ w'.cell? ⟨pb, 9, none⟩ = some (.int .i64 x.c1) ∧ w'.cell? ⟨pb, 10, none⟩ = some (.int .i64 x.c2) ∧ w'.cell? ⟨pb, 11, none⟩ = some (.int .i64 x.last)) := fun w' p' q' s' sf hd => ⟨by rw [hd.blk.cell]; rfl, KP.out w' hd.book⟩
   refine wp_region_held_drew (S := fun w' => w'.cell? ⟨db, 0, none⟩ = some (.pointer (some ⟨pb, 0, none⟩)) ∧ w'.cell? ⟨pb, 8, none⟩ = some (.int .i64 x.c0) ∧ w'.cell? ⟨pb, 9, none⟩ = some (.int .i64 x.c1) ∧ w'.cell? ⟨pb, 10, none⟩ = some (.int .i64 x.c2) ∧ w'.cell? ⟨pb, 11, none⟩ = some (.int .i64 x.last)) (by kernel_rfl) (KC.out _ _ _ _ _ D2d) (fun hHeld => ?_)
   refine tkn 0 rfl hHeld ?_
   simp only [Act.put]
   refine tkn 1 rfl hHeld ?_
   simp only [Act.put]
   refine tkn 2 rfl hHeld ?_
   simp only [Act.put]
   refine tkn 3 rfl hHeld ?_
   simp only [Act.put]
   refine tkn 4 rfl hHeld ?_
   simp only [Act.put]
   refine tkn 5 rfl hHeld ?_
   simp only [Act.put]
   refine tkn 6 rfl hHeld ?_
   simp only [Act.put]
   refine tkn 7 rfl hHeld ?_
   simp only [Act.put]
   refine tkn 8 rfl hHeld ?_
   simp only [Act.put]
   refine tkn 9 rfl hHeld ?_
   simp only [Act.put]
   refine tkn 10 rfl hHeld ?_
   simp only [Act.put]
   refine tkn 11 rfl hHeld ?_
   simp only [Act.put]
   refine tkn 12 rfl hHeld ?_
   simp only [Act.put]
   refine tkn 13 rfl hHeld ?_
   simp only [Act.put]
   have dc := hD2.blk.cell
   have df := hD2.blk.fr
   refine exn 14 rfl fun K hK => ?_
   go_simp
   have D3 := hD2.lay2 x
   have B3 : Below base wr ((((w2.setCell ⟨db, 9, none⟩ (.int .i64 x.c0)).setCell ⟨db, 10, none⟩ (.int .i64 x.c1)).setCell ⟨db, 11, none⟩ (.int .i64 x.c2)).setCell ⟨db, 12, none⟩ (.int .i64 x.last)) := Below.setCell (p := ⟨db, 12, none⟩) (Below.setCell (p := ⟨db, 11, none⟩) (Below.setCell (p := ⟨db, 10, none⟩) (Below.setCell (p := ⟨db, 9, none⟩) hB2 hD2.ge _) hD2.ge _) hD2.ge _) hD2.ge _
   clear hHeld dc df
   refine hK.out _ _ (KC.out _ _ _ _ _ (D3.ext (Ext.refl _).drew)) (fun hHeld => ?_)
   clear hK K
   refine wpAnyH_done (by kernel_rfl) ?_ _
   clear hHeld
   go_wp2_with fail
   go_roundw
   case rel => exact Or.inr ⟨rfl, Below.drew B3, D3.ext (Ext.refl _).drew⟩
   case measure => simp [intOf]
  ·go_wp2_with fail
   go_ret
   exact ⟨rfl, hB, hD⟩
end Go.Proofs.YtibfgbmhmdggmaaGreatDoor.B
namespace Go.Proofs.YtibfgbmhmdggmaaGreatDoor.B
set_option maxHeartbeats 32000000
set_option maxRecDepth 100000
theorem pgAt_other {ps : List Int} {i k : Nat} (h : k < i * 4 ∨ i * 4 + 4 ≤ k) (v : Int) : pgAt (ps.set k v) i = pgAt ps i := by
 unfold pgAt
 rw [getD_set, getD_set, getD_set, getD_set, if_neg (by omega), if_neg (by omega), if_neg (by omega), if_neg (by omega)]
theorem page_told (i : Nat) (hi : i < 3) : ∀ l, Right l → (0 ≤ (pgAt (pagesR l) i).last ∧ (pgAt (pagesR l) i).last ≤ (l.length : Nat)) ∧ pgAt (pagesR (l.take (pgAt (pagesR l) i).last.toNat)) i = pgAt (pagesR l) i := right_ind _
 (by
  have hc : i = 0 ∨ i = 1 ∨ i = 2 := by omega
  rcases hc with rfl | rfl | rfl <;> exact ⟨⟨by decide, by decide⟩, rfl⟩)
 fun l r hR ih he hf => by
  obtain ⟨⟨h1, h2⟩, h3⟩ := ih
  by_cases same : turns r = true ∧ r.page = (i : Nat)
  ·obtain ⟨ht, hp⟩ := same
   have hfit := recErr_fits he ht
   have hl := pagesR_len l
   have hlast : (pgAt (pagesR (l ++ [r])) i).last = (l.length : Int) + 1 := by
    show (pagesR (l ++ [r])).getD (i * 4 + 3) 0 = _
    rw [pagesR_snoc, if_pos ht, getD_set, if_pos (by rw [List.length_set, hl]; omega)]
   rw [hlast]
   refine ⟨⟨by omega, by simp⟩, ?_⟩
   rw [show ((l.length : Int) + 1).toNat = (l ++ [r]).length from by simp, List.take_length]
  ·have hpg : pgAt (pagesR (l ++ [r])) i = pgAt (pagesR l) i := by
    rw [pagesR_snoc]
    by_cases ht : turns r = true
    ·have hfit := recErr_fits he ht
     have hne : r.page ≠ (i : Nat) := fun e => same ⟨ht, e⟩
     rw [if_pos ht, pgAt_other (by omega), pgAt_other (by omega)]
    ·rw [if_neg ht]
   rw [hpg]
   refine ⟨⟨h1, by simp only [List.length_append, List.length_singleton]; omega⟩, ?_⟩
   rw [List.take_append_of_le_length (by omega)]
   exact h3
theorem maxI_le_left (a b : Int) : a ≤ maxI a b := by unfold maxI; split <;> omega
theorem maxI_le_right (a b : Int) : b ≤ maxI a b := by unfold maxI; split <;> omega
theorem maxI_le {a b c : Int} (h1 : a ≤ c) (h2 : b ≤ c) : maxI a b ≤ c := by unfold maxI; split <;> omega
theorem untold_more {l : List Rc} {safe safe' : Int} {i : Nat} {d : Pg} (h : untoldB l safe i d = false) (hs : safe ≤ (l.length : Nat)) (hs' : safe ≤ safe') : untoldB l safe' i d = false := by
 have := untold_app (m := []) h hs hs'
 rwa [List.append_nil] at this
theorem world_more {p q r : Pg} {l : List Rc} {safe safe' : Int} (h : worldErr p q r l safe = 0) (hs : safe ≤ safe') (hs' : safe' ≤ (l.length : Nat)) : worldErr p q r l safe' = 0 := by
 have := world_app (m := []) (safe' := safe') h (by rw [List.append_nil]; exact (worldErr_zero h).1) hs (by rw [List.append_nil]; exact hs')
 rwa [List.append_nil] at this
theorem untold_laid {l : List Rc} (hR : Right l) {safe : Int} {i : Nat} (hi : i < 3) (hs : (pgAt (pagesR l) i).last ≤ safe) : untoldB l safe i (pgAt (pagesR l) i) = false := by
 obtain ⟨⟨h1, _⟩, h3⟩ := page_told i hi l hR
 unfold untoldB
 rw [h3, eqPg_refl, out1_ok h1 hs]
 rfl
theorem untold_lay {l : List Rc} (hR : Right l) {safe x : Int} {i : Nat} (hi : i < 3) {d : Pg} (h : untoldB l safe i d = false) (hs : safe ≤ (l.length : Nat)) : untoldB l (laySafe l safe x) i (layPg l x i d) = false := by
 unfold layPg
 by_cases hx : x = (i : Nat)
 ·rw [if_pos hx]
  refine untold_laid hR hi ?_
  unfold laySafe
  rw [hx, Int.toNat_natCast]
  exact maxI_le_right _ _
 ·rw [if_neg hx]
  exact untold_more h hs (maxI_le_left _ _)
theorem world_lay {p q r : Pg} {l : List Rc} {safe x : Int} (h : worldErr p q r l safe = 0) (hx : 0 ≤ x ∧ x ≤ 2) : worldErr (layPg l x 0 p) (layPg l x 1 q) (layPg l x 2 r) l (laySafe l safe x) = 0 ∧ safe ≤ laySafe l safe x := by
 obtain ⟨hl, h2, h3⟩ := worldErr_zero h
 obtain ⟨h4, h5⟩ := out1_false h2
 have hR := (logErr_zero hl).2
 simp only [untoldTo, Bool.or_eq_false_iff, Bool.false_or] at h3
 have hle : laySafe l safe x ≤ (l.length : Nat) := by
  refine maxI_le h5 ?_
  obtain ⟨k, rfl⟩ : ∃ k : Nat, x = k := ⟨x.toNat, by omega⟩
  have := (page_told k (by omega) l hR).1.2
  rw [Int.toNat_natCast]
  exact this
 have hge : safe ≤ laySafe l safe x := maxI_le_left _ _
 refine ⟨worldErr_none hl (out1_ok (by omega) hle) ?_, hge⟩
 simp only [untoldTo, Bool.or_eq_false_iff, Bool.false_or]
 exact ⟨⟨untold_lay hR (by decide) h3.1.1 h5, untold_lay hR (by decide) h3.1.2 h5⟩, untold_lay hR (by decide) h3.2 h5⟩
def numsOf (p q r : Pg) : List Int := [p.c0, p.c1, p.c2, p.last, q.c0, q.c1, q.c2, q.last, r.c0, r.c1, r.c2, r.last]
theorem numsOf_at (p q r : Pg) {i : Nat} (hi : i < 3) : pgAt (numsOf p q r) i = selPg p q r i := by
 have hc : i = 0 ∨ i = 1 ∨ i = 2 := by omega
 rcases hc with rfl | rfl | rfl <;> rfl
theorem pages_ext {a b : List Int} (ha : a.length = 12) (hb : b.length = 12) (h : ∀ i, i < 3 → pgAt a i = pgAt b i) : a = b := by
 refine List.ext_getElem? fun k => ?_
 by_cases hk : k < 12
 ·have h0 := h 0 (by decide)
  have h1 := h 1 (by decide)
  have h2 := h 2 (by decide)
  unfold pgAt at h0 h1 h2
  simp only [Pg.mk.injEq] at h0 h1 h2
  have g : a.getD k 0 = b.getD k 0 := by
   have hc : k = 0 ∨ k = 1 ∨ k = 2 ∨ k = 3 ∨ k = 4 ∨ k = 5 ∨ k = 6 ∨ k = 7 ∨ k = 8 ∨ k = 9 ∨ k = 10 ∨ k = 11 := by omega
   rcases hc with rfl | rfl | rfl | rfl | rfl | rfl | rfl | rfl | rfl | rfl | rfl | rfl
   ·exact h0.1
   ·exact h0.2.1
   ·exact h0.2.2.1
   ·exact h0.2.2.2
   ·exact h1.1
   ·exact h1.2.1
   ·exact h1.2.2.1
   ·exact h1.2.2.2
   ·exact h2.1
   ·exact h2.2.1
   ·exact h2.2.2.1
   ·exact h2.2.2.2
  rw [List.getElem?_eq_getElem (by omega), List.getElem?_eq_getElem (by omega)]
  rw [List.getD_eq_getElem?_getD, List.getD_eq_getElem?_getD, List.getElem?_eq_getElem (by omega), List.getElem?_eq_getElem (by omega)] at g
  exact congrArg some g
 ·rw [List.getElem?_eq_none (by omega), List.getElem?_eq_none (by omega)]
theorem untold_told {l : List Rc} {safe : Int} {i : Nat} {d : Pg} (h : untoldB l safe i d = false) : 0 ≤ d.last ∧ d.last ≤ safe ∧ pgAt (pagesR (l.take d.last.toNat)) i = d := by
 unfold untoldB at h
 simp only [Bool.or_eq_false_iff, Bool.not_eq_false'] at h
 obtain ⟨h1, h2⟩ := out1_false h.1
 exact ⟨h1, h2, ((eqPg_iff _ _).1 h.2).symm⟩
theorem untold_cut {l : List Rc} {safe : Int} {i : Nat} {d : Pg} (h : untoldB l safe i d = false) : untoldB (l.take safe.toNat) safe i d = false := by
 obtain ⟨h1, h2, h3⟩ := untold_told h
 unfold untoldB
 rw [out1_ok h1 h2, List.take_take, show min d.last.toNat safe.toNat = d.last.toNat from by omega, h3, eqPg_refl]
 rfl
theorem world_cut {p q r : Pg} {l : List Rc} {safe : Int} (h : worldErr p q r l safe = 0) : worldErr p q r (l.take safe.toNat) safe = 0 ∧ (((l.take safe.toNat).length : Nat) : Int) = safe := by
 obtain ⟨hl, h2, h3⟩ := worldErr_zero h
 obtain ⟨h4, h5⟩ := out1_false h2
 have hlen : (((l.take safe.toNat).length : Nat) : Int) = safe := by rw [List.length_take_of_le (by omega)]; omega
 simp only [untoldTo, Bool.or_eq_false_iff, Bool.false_or] at h3
 refine ⟨worldErr_none (logErr_pre hl _) (out1_ok h4 (by omega)) ?_, hlen⟩
 simp only [untoldTo, Bool.or_eq_false_iff, Bool.false_or]
 exact ⟨⟨untold_cut h3.1.1, untold_cut h3.1.2⟩, untold_cut h3.2⟩
def laidPg (l : List Rc) (b : Bool) (i : Nat) (d : Pg) : Pg := if b then pgAt (pagesR l) i else d
theorem untold_half {c m : List Rc} (hR : Right (c ++ m)) {safe : Int} {i : Nat} (hi : i < 3) {d : Pg} (h : untoldB c safe i d = false) (hs : safe ≤ (c.length : Nat)) (b : Bool) : untoldB (c ++ m) ((c ++ m).length : Nat) i (laidPg (c ++ m) b i d) = false := by
 unfold laidPg
 cases b
 ·exact untold_app h hs (by rw [List.length_append]; omega)
 ·exact untold_laid hR hi (page_told i hi _ hR).1.2
theorem world_half {p q r : Pg} {c m : List Rc} {safe : Int} (h : worldErr p q r c safe = 0) (hR : Right (c ++ m)) (b0 b1 b2 : Bool) : worldErr (laidPg (c ++ m) b0 0 p) (laidPg (c ++ m) b1 1 q) (laidPg (c ++ m) b2 2 r) (c ++ m) ((c ++ m).length : Nat) = 0 := by
 obtain ⟨_, h2, h3⟩ := worldErr_zero h
 obtain ⟨_, h5⟩ := out1_false h2
 simp only [untoldTo, Bool.or_eq_false_iff, Bool.false_or] at h3
 refine worldErr_none (logErr_of hR) (out1_ok (by omega) (Int.le_refl _)) ?_
 simp only [untoldTo, Bool.or_eq_false_iff, Bool.false_or]
 exact ⟨⟨untold_half hR (by decide) h3.1.1 h5 b0, untold_half hR (by decide) h3.1.2 h5 b1⟩, untold_half hR (by decide) h3.2 h5 b2⟩
def mendErr (l : List Rc) : Int := if 60 < l.length + needR l then 2 else 0
theorem mendErr_zero {l : List Rc} : mendErr l = 0 ↔ l.length + needR l ≤ 60 := by
 unfold mendErr
 split
 ·exact ⟨fun h => (by cases h), fun h => (by omega)⟩
 ·exact ⟨fun _ => by omega, fun _ => rfl⟩
theorem cells_must {l : List Rc} (hR : Right l) (h : isNext l = false) {i j : Nat} (hi : i < 3) (hj : j < 3) : (pagesR l).getD (i * 4 + j) 0 = (cellsR l).getD (i * 3 + j) 0 := by
 have := (mended_calm hR h).2 ((i : Nat), (j : Nat)) ⟨by omega, by dsimp only; omega, by omega, by dsimp only; omega⟩
 unfold mustR cellR at this
 simp only [Int.toNat_natCast] at this
 exact this.symm
theorem mend_all {p q r : Pg} {l : List Rc} {safe : Int} (h : worldErr p q r l safe = 0) (he : mendErr (l.take safe.toNat) = 0) :
  Right (mendR (l.take safe.toNat)) ∧ (mendR (l.take safe.toNat)).length = safe.toNat + needR (l.take safe.toNat) ∧ (mendR (l.take safe.toNat)).length ≤ 60 ∧
   worldErr (pgAt (pagesR (mendR (l.take safe.toNat))) 0) (pgAt (pagesR (mendR (l.take safe.toNat))) 1) (pgAt (pagesR (mendR (l.take safe.toNat))) 2) (mendR (l.take safe.toNat)) ((mendR (l.take safe.toNat)).length : Nat) = 0 ∧
   losersR (mendR (l.take safe.toNat)) = [] ∧ needR (mendR (l.take safe.toNat)) = 0 ∧ mendR (mendR (l.take safe.toNat)) = mendR (l.take safe.toNat) ∧
   ∀ i j, i < 3 → j < 3 → (pagesR (mendR (l.take safe.toNat))).getD (i * 4 + j) 0 = (cellsR (l.take safe.toNat)).getD (i * 3 + j) 0 := by
 obtain ⟨hc, hlen⟩ := world_cut h
 have hR := (logErr_zero (worldErr_zero hc).1).2
 have hle := mendErr_zero.1 he
 obtain ⟨h1, h2, h3, h4, m, h5⟩ := mendR_all hR hle
 have hs : (l.take safe.toNat).length = safe.toNat := by omega
 have hn := need_zero.2 h2
 refine ⟨h1, by rw [h3, hs], by omega, ?_, (mended_calm h1 h2).1, hn, ?_, fun i j hi hj => by rw [cells_must h1 h2 hi hj, h4]⟩
 ·have := world_half hc (h5 ▸ h1) true true true
  rw [← h5] at this
  exact this
 ·show mendN (needR (mendR (l.take safe.toNat))) (mendR (l.take safe.toNat)) = _
  rw [hn]
  rfl
structure Wd where
 p : Pg
 q : Pg
 r : Pg
 l : List Rc
 safe : Int
structure Ac where
 kind : Int
 txn : Int
 page : Int
 cell : Int
 val : Int
def Wd.err (w : Wd) : Int := worldErr w.p w.q w.r w.l w.safe
def Wd.cut (w : Wd) : List Rc := w.l.take w.safe.toNat
def noWd : Wd := ⟨noPg, noPg, noPg, [], 0⟩
def doErr (w : Wd) (x : Ac) : Int :=
 if x.kind = 1 then errOf w.err (writeErr w.l x.txn x.page x.cell x.val)
 else if x.kind = 2 then errOf w.err (commitErr w.l x.txn)
 else if x.kind = 3 then errOf w.err (abortErr w.l x.txn)
 else if x.kind = 4 then errOf w.err (syncErr w.l x.val)
 else if x.kind = 5 then errOf w.err (pageErr x.page)
 else if x.kind = 6 then errOf w.err (mendErr w.cut)
 else 4
def mendWd (w : Wd) : Wd := ⟨pgAt (pagesR (mendR w.cut)) 0, pgAt (pagesR (mendR w.cut)) 1, pgAt (pagesR (mendR w.cut)) 2, mendR w.cut, ((mendR w.cut).length : Nat)⟩
def doTo (w : Wd) (x : Ac) : Wd :=
 if x.kind = 1 then { w with l := w.l ++ [writeRec w.l x.txn x.page x.cell x.val] }
 else if x.kind = 2 then { w with l := (w.l ++ [commitRec w.l x.txn]) ++ [endRec w.l x.txn], safe := (w.l.length : Int) + 1 }
 else if x.kind = 3 then { w with l := abortR w.l x.txn }
 else if x.kind = 4 then { w with safe := maxI w.safe x.val }
 else if x.kind = 5 then ⟨layPg w.l x.page 0 w.p, layPg w.l x.page 1 w.q, layPg w.l x.page 2 w.r, w.l, laySafe w.l w.safe x.page⟩
 else mendWd w
theorem safe_le {w : Wd} (h : w.err = 0) : 0 ≤ w.safe ∧ w.safe ≤ (w.l.length : Nat) := out1_false (worldErr_zero h).2.1
theorem pageErr_zero {x : Int} (h : pageErr x = 0) : 0 ≤ x ∧ x ≤ 2 := by
 cases ho : out 0 2 [x]
 ·exact out1_false ho
 ·unfold pageErr at h; rw [ho] at h; cases h
theorem syncErr_zero {l : List Rc} {x : Int} (h : syncErr l x = 0) : 0 ≤ x ∧ x ≤ (l.length : Nat) := by
 cases ho : out 0 (l.length : Nat) [x]
 ·exact out1_false ho
 ·unfold syncErr at h; rw [ho] at h; cases h
theorem do_right {w : Wd} {x : Ac} (h : doErr w x = 0) : w.err = 0 ∧ (doTo w x).err = 0 ∧ w.safe ≤ (doTo w x).safe ∧ (doTo w x).l.take w.safe.toNat = w.l.take w.safe.toNat := by
 obtain ⟨p, q, r, l, safe⟩ := w
 obtain ⟨k, t, pg, c, v⟩ := x
 unfold doErr Wd.err Wd.cut at h
 unfold doTo
 dsimp only at h ⊢
 by_cases h1 : k = 1
 ·rw [if_pos h1] at h ⊢
  obtain ⟨hz, _, hw, _⟩ := write_all h
  have := safe_le (w := ⟨p, q, r, l, safe⟩) hz
  exact ⟨hz, hw, Int.le_refl _, List.take_append_of_le_length (by dsimp only at this; omega)⟩
 rw [if_neg h1] at h ⊢
 by_cases h2 : k = 2
 ·rw [if_pos h2] at h ⊢
  obtain ⟨hz, _, hw, _⟩ := commit_all h
  have := safe_le (w := ⟨p, q, r, l, safe⟩) hz
  dsimp only at this
  refine ⟨hz, hw, by dsimp only; omega, ?_⟩
  rw [List.append_assoc]
  exact List.take_append_of_le_length (by omega)
 rw [if_neg h2] at h ⊢
 by_cases h3 : k = 3
 ·rw [if_pos h3] at h ⊢
  obtain ⟨hz, hl, hw, _⟩ := abort_all h
  have := safe_le (w := ⟨p, q, r, l, safe⟩) hz
  dsimp only at this
  obtain ⟨m, hm⟩ := abort_pre (logErr_zero hl).2 (errOf_zero h).2
  refine ⟨hz, hw, Int.le_refl _, ?_⟩
  dsimp only
  rw [hm]
  exact List.take_append_of_le_length (by omega)
 rw [if_neg h3] at h ⊢
 by_cases h4 : k = 4
 ·rw [if_pos h4] at h ⊢
  obtain ⟨hz, he⟩ := errOf_zero h
  have := safe_le (w := ⟨p, q, r, l, safe⟩) hz
  have hv := syncErr_zero he
  exact ⟨hz, world_more hz (maxI_le_left _ _) (maxI_le this.2 hv.2), maxI_le_left _ _, rfl⟩
 rw [if_neg h4] at h ⊢
 by_cases h5 : k = 5
 ·rw [if_pos h5] at h ⊢
  obtain ⟨hz, he⟩ := errOf_zero h
  obtain ⟨h6, h7⟩ := world_lay hz (pageErr_zero he)
  exact ⟨hz, h6, h7, rfl⟩
 rw [if_neg h5] at h ⊢
 by_cases h6 : k = 6
 ·rw [if_pos h6] at h
  obtain ⟨hz, he⟩ := errOf_zero h
  obtain ⟨k1, k2, k3, k4, _⟩ := mend_all hz he
  have := safe_le (w := ⟨p, q, r, l, safe⟩) hz
  dsimp only at this
  obtain ⟨hc, hlen⟩ := world_cut hz
  obtain ⟨m, hm⟩ := (mendR_all (logErr_zero (worldErr_zero hc).1).2 (mendErr_zero.1 he)).2.2.2.2
  refine ⟨hz, k4, ?_, ?_⟩
  ·show safe ≤ (((mendR (l.take safe.toNat)).length : Nat) : Int)
   omega
  ·show (mendR (l.take safe.toNat)).take safe.toNat = l.take safe.toNat
   rw [hm, List.take_append_of_le_length (by omega), List.take_take, Nat.min_self]
 ·rw [if_neg h6] at h; cases h
theorem noWd_err : noWd.err = 0 := by decide
end Go.Proofs.YtibfgbmhmdggmaaGreatDoor.B
