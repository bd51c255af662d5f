/- To the disk, as plain functions; the contracts of the desk's Secure and Lay, and of the flush's Sync and Page. -/
import Derived.Test.YtbfefocehnafgaaDoorPlainA
namespace Go.Proofs.YtbfefocehnafgaaDoor.B
set_option maxRecDepth 100000
open Go.ChangeShapes Go.WideShapes Go.ChangeAt Go.RowKit

def syncErr (l : List Rc) (n : Int) : Int := if out 0 (l.length : Nat) [n] then 3 else 0
def pageErr (x : Int) : Int := if out 0 2 [x] then 3 else 0
def layPg (l : List Rc) (x : Int) (i : Nat) (d : Pg) : Pg := if x = (i : Nat) then pgAt (pagesR l) i else d
def maxI (a b : Int) : Int := if a < b then b else a
def laySafe (l : List Rc) (safe x : Int) : Int := maxI safe ((pagesR l).getD (x.toNat * 4 + 3) 0)
theorem maxI_lt {a b : Int} (h : a < b) : maxI a b = b := by unfold maxI; rw [if_pos h]
theorem maxI_ge {a b : Int} (h : ¬ a < b) : maxI a b = a := by unfold maxI; rw [if_neg h]
theorem DeskOk.lay0 {w : World} {base db pb mt mh : Nat} {l : List Rc} {tx : List TxE} {ho : List HE} {p q s : Pg} {lv : Value} {safe : Int} (h : DeskOk w base db pb mt mh l tx ho p q s lv safe) (x : Pg) :
    DeskOk ((((w.setCell ⟨db, 1, none⟩ (.int .i64 x.c0)).setCell ⟨db, 2, none⟩ (.int .i64 x.c1)).setCell ⟨db, 3, none⟩ (.int .i64 x.c2)).setCell ⟨db, 4, none⟩ (.int .i64 x.last)) base db pb mt mh l tx ho x q s lv safe := by
  obtain ⟨n1, n2, n3, n4, n5, _⟩ := h.apart
  have G : Gr (some db) w ((((w.setCell ⟨db, 1, none⟩ (.int .i64 x.c0)).setCell ⟨db, 2, none⟩ (.int .i64 x.c1)).setCell ⟨db, 3, none⟩ (.int .i64 x.c2)).setCell ⟨db, 4, none⟩ (.int .i64 x.last)) := ((((Gr.refl (some db) w).set (p := ⟨db, 1, none⟩) (Or.inr rfl) _).set (p := ⟨db, 2, none⟩) (Or.inr rfl) _).set (p := ⟨db, 3, none⟩) (Or.inr rfl) _).set (p := ⟨db, 4, none⟩) (Or.inr rfl) _
  refine ⟨(((h.blk.set 1 _).set 2 _).set 3 _).set 4 _, ?_, ?_, h.ge, h.free⟩
  · refine h.book.gr G (fun e => n1 (by injection e with e; exact e.symm)) (fun e => n2 (by injection e with e; exact e.symm)) (fun e => n3 (by injection e with e; exact e.symm)) (fun t ht k hk e => ?_)
    injection e with e
    subst e
    exact n4 t ht hk
  · exact own_gr h.own G (fun k hk e => by injection e with e; rw [e] at hk; exact n5 hk)
theorem DeskOk.lay1 {w : World} {base db pb mt mh : Nat} {l : List Rc} {tx : List TxE} {ho : List HE} {p q s : Pg} {lv : Value} {safe : Int} (h : DeskOk w base db pb mt mh l tx ho p q s lv safe) (x : Pg) :
    DeskOk ((((w.setCell ⟨db, 5, none⟩ (.int .i64 x.c0)).setCell ⟨db, 6, none⟩ (.int .i64 x.c1)).setCell ⟨db, 7, none⟩ (.int .i64 x.c2)).setCell ⟨db, 8, none⟩ (.int .i64 x.last)) base db pb mt mh l tx ho p x s lv safe := by
  obtain ⟨n1, n2, n3, n4, n5, _⟩ := h.apart
  have G : Gr (some db) w ((((w.setCell ⟨db, 5, none⟩ (.int .i64 x.c0)).setCell ⟨db, 6, none⟩ (.int .i64 x.c1)).setCell ⟨db, 7, none⟩ (.int .i64 x.c2)).setCell ⟨db, 8, none⟩ (.int .i64 x.last)) := ((((Gr.refl (some db) w).set (p := ⟨db, 5, none⟩) (Or.inr rfl) _).set (p := ⟨db, 6, none⟩) (Or.inr rfl) _).set (p := ⟨db, 7, none⟩) (Or.inr rfl) _).set (p := ⟨db, 8, none⟩) (Or.inr rfl) _
  refine ⟨(((h.blk.set 5 _).set 6 _).set 7 _).set 8 _, ?_, ?_, h.ge, h.free⟩
  · refine h.book.gr G (fun e => n1 (by injection e with e; exact e.symm)) (fun e => n2 (by injection e with e; exact e.symm)) (fun e => n3 (by injection e with e; exact e.symm)) (fun t ht k hk e => ?_)
    injection e with e
    subst e
    exact n4 t ht hk
  · exact own_gr h.own G (fun k hk e => by injection e with e; rw [e] at hk; exact n5 hk)
theorem DeskOk.lay2 {w : World} {base db pb mt mh : Nat} {l : List Rc} {tx : List TxE} {ho : List HE} {p q s : Pg} {lv : Value} {safe : Int} (h : DeskOk w base db pb mt mh l tx ho p q s lv safe) (x : Pg) :
    DeskOk ((((w.setCell ⟨db, 9, none⟩ (.int .i64 x.c0)).setCell ⟨db, 10, none⟩ (.int .i64 x.c1)).setCell ⟨db, 11, none⟩ (.int .i64 x.c2)).setCell ⟨db, 12, none⟩ (.int .i64 x.last)) base db pb mt mh l tx ho p q x lv safe := by
  obtain ⟨n1, n2, n3, n4, n5, _⟩ := h.apart
  have G : Gr (some db) w ((((w.setCell ⟨db, 9, none⟩ (.int .i64 x.c0)).setCell ⟨db, 10, none⟩ (.int .i64 x.c1)).setCell ⟨db, 11, none⟩ (.int .i64 x.c2)).setCell ⟨db, 12, none⟩ (.int .i64 x.last)) := ((((Gr.refl (some db) w).set (p := ⟨db, 9, none⟩) (Or.inr rfl) _).set (p := ⟨db, 10, none⟩) (Or.inr rfl) _).set (p := ⟨db, 11, none⟩) (Or.inr rfl) _).set (p := ⟨db, 12, none⟩) (Or.inr rfl) _
  refine ⟨(((h.blk.set 9 _).set 10 _).set 11 _).set 12 _, ?_, ?_, h.ge, h.free⟩
  · refine h.book.gr G (fun e => n1 (by injection e with e; exact e.symm)) (fun e => n2 (by injection e with e; exact e.symm)) (fun e => n3 (by injection e with e; exact e.symm)) (fun t ht k hk e => ?_)
    injection e with e
    subst e
    exact n4 t ht hk
  · exact own_gr h.own G (fun k hk e => by injection e with e; rw [e] at hk; exact n5 hk)
end Go.Proofs.YtbfefocehnafgaaDoor.B
