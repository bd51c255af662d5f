/- The contracts of the reference's RecError and turns, of the laws' records, and of what must be of records in any case. The laws' own records, what must be of records in any case, and RecTells and RecTrue. -/
import Derived.Test.YtibfgbmhmdggmaaGreatDoorRec
import Derived.Deep.RegionHeld3
namespace Go.Proofs.YtibfgbmhmdggmaaGreatDoor.B
set_option maxHeartbeats 32000000
set_option maxRecDepth 100000
open Go.ChangeShapes Go.WideShapes Go.ChangeAt Go.RowKit
theorem refTurns_any (r : Rc) (w : World) :
  Calls Tryz.prog 43 #[r.val] w fun e w' => e = .returned (.bool (turns r)) ∧ Ext w w' := by
 have hT : Hid (turns r = (r.kind == 1 || r.kind == 3)) := rfl
 cases h1 : (r.kind == 1)
 ·cases h3 : (r.kind == 3)
  ·have HT : Hid (turns r = false) := by rw [Hid, hT.out, h1, h3]; exact rfl
   go_enter Tryz.func43, Tryz.ntmps43
   go_wp2_with fail
   go_ret
   exact ⟨by rw [HT.out]; rfl, (Ext.refl _).alloc _⟩
  ·have HT : Hid (turns r = true) := by rw [Hid, hT.out, h1, h3]; exact rfl
   go_enter Tryz.func43, Tryz.ntmps43
   go_wp2_with fail
   go_ret
   exact ⟨by rw [HT.out]; rfl, (Ext.refl _).alloc _⟩
 ·have HT : Hid (turns r = true) := by rw [Hid, hT.out, h1]; rfl
  go_enter Tryz.func43, Tryz.ntmps43
  go_wp2_with fail
  go_ret
  exact ⟨by rw [HT.out]; rfl, (Ext.refl _).alloc _⟩
theorem out_two (lo hi a b : Int) : out lo hi [a, b] = (!wi a lo hi || !wi b lo hi) := by simp [out, wi_not]
theorem out_zero4 (a b c d : Int) : out 0 0 [a, b, c, d] = (a != 0 || (b != 0 || (c != 0 || d != 0))) := by
 have e : ∀ x : Int, (decide (x < 0) || decide (0 < x)) = (x != 0) := by
  intro x
  by_cases h : x = 0
  ·subst h; rfl
  ·rw [bne_iff_ne.2 h, Bool.or_eq_true, decide_eq_true_eq, decide_eq_true_eq]; omega
 simp only [out, List.any_cons, List.any_nil, e, Bool.or_false]
theorem recErr_wi (n : Int) (r : Rc) : recErr n r = if !wi n 1 60 then 3 else if !wi r.kind 1 4 then 4 else
  if (!wi r.txn 1 9 || (!wi r.prev 0 (n - 1) || ((turns r && (!wi r.page 0 2 || (!wi r.cell 0 2 || (!wi r.old 0 99 || !wi r.new 0 99)))) || (r.kind == 3 && !wi r.next 0 (n - 1))))) then 3 else
  if ((!turns r && (r.page != 0 || (r.cell != 0 || (r.old != 0 || r.new != 0)))) || (r.kind != 3 && r.next != 0)) then 1 else 0 := by
 unfold recErr outOf tooMuch cellOut
 simp only [out_one, out_two, out_zero4]
theorem recError_k1 (n txn prev page cell old new next : Int) (w : World) (hn : wi n 1 60 = true) :
  Calls Tryz.prog 87 #[.int .i64 n, Rc.val ⟨1, txn, prev, page, cell, old, new, next⟩] w fun e w' => e = .returned (.int .i64 (recErr n ⟨1, txn, prev, page, cell, old, new, next⟩)) ∧ Ext w w' := by
 have H1 := (show Hid _ from hn)
 have n1 : 1 ≤ n ∧ n ≤ 60 := by simpa [wi] using hn
 obtain ⟨n1, n2⟩ := n1
 have H2 : Hid (wi 1 1 4 = true) := rfl
 clear hn
 go_enter Tryz.func87, Tryz.ntmps87
 go_wp2_with fail
 refine (within_any n 1 60 _).mono ?_
 rintro e w' ⟨rfl, rfl⟩
 rw [H1.out]
 go_wp2_with fail
 refine (within_any 1 1 4 _).mono ?_
 rintro e w' ⟨rfl, rfl⟩
 rw [H2.out]
 go_wp2_with fail
 refine (within_any txn 1 9 _).mono ?_
 rintro e w' ⟨rfl, rfl⟩
 cases hh : wi txn 1 9
 ·have H11 := (show Hid _ from hh)
  clear hh
  have HR : Hid (recErr n ⟨1, txn, prev, page, cell, old, new, next⟩ = 3) := by rw [Hid, recErr_wi]; simp [turns, H1.out, H2.out, H11.out]
  go_wp2_with fail
  go_ret
  exact ⟨by rw [HR.out]; rfl, (Ext.refl _).alloc _⟩
 ·have H11 := (show Hid _ from hh)
  clear hh
  go_wp2_with fail
  refine (within_any prev 0 (n - 1) _).mono ?_
  rintro e w' ⟨rfl, rfl⟩
  cases hh : wi prev 0 (n - 1)
  ·have H12 := (show Hid _ from hh)
   clear hh
   have HR : Hid (recErr n ⟨1, txn, prev, page, cell, old, new, next⟩ = 3) := by rw [Hid, recErr_wi]; simp [turns, H1.out, H2.out, H11.out, H12.out]
   go_wp2_with fail
   go_ret
   exact ⟨by rw [HR.out]; rfl, (Ext.refl _).alloc _⟩
  ·have H12 := (show Hid _ from hh)
   clear hh
   go_wp2_with fail
   refine (refTurns_any ⟨1, txn, prev, page, cell, old, new, next⟩ _).mono ?_
   rintro e w1 ⟨rfl, hw1⟩
   rw [show turns ⟨1, txn, prev, page, cell, old, new, next⟩ = true from rfl]
   have Bw1 := (Blk.new w w.heap.size (Rc.cs ⟨1, txn, prev, page, cell, old, new, next⟩) 81 rfl).ext hw1
   have Ew1 : Ext w w1 := ((Ext.refl w).alloc _).trans hw1
   have cw1 := Bw1.cell
   go_wp2_with fail
   refine (within_any page 0 2 _).mono ?_
   rintro e w' ⟨rfl, rfl⟩
   cases hh : wi page 0 2
   ·have H13 := (show Hid _ from hh)
    clear hh
    have HR : Hid (recErr n ⟨1, txn, prev, page, cell, old, new, next⟩ = 3) := by rw [Hid, recErr_wi]; simp [turns, H1.out, H2.out, H11.out, H12.out, H13.out]
    go_wp2_with fail
    go_ret
    exact ⟨by rw [HR.out]; rfl, Ew1⟩
   ·have H13 := (show Hid _ from hh)
    clear hh
    go_wp2_with fail
    refine (within_any cell 0 2 _).mono ?_
    rintro e w' ⟨rfl, rfl⟩
    cases hh : wi cell 0 2
    ·have H14 := (show Hid _ from hh)
     clear hh
     have HR : Hid (recErr n ⟨1, txn, prev, page, cell, old, new, next⟩ = 3) := by rw [Hid, recErr_wi]; simp [turns, H1.out, H2.out, H11.out, H12.out, H13.out, H14.out]
     go_wp2_with fail
     go_ret
     exact ⟨by rw [HR.out]; rfl, Ew1⟩
    ·have H14 := (show Hid _ from hh)
     clear hh
     go_wp2_with fail
     refine (within_any old 0 99 _).mono ?_
     rintro e w' ⟨rfl, rfl⟩
     cases hh : wi old 0 99
     ·have H15 := (show Hid _ from hh)
      clear hh
      have HR : Hid (recErr n ⟨1, txn, prev, page, cell, old, new, next⟩ = 3) := by rw [Hid, recErr_wi]; simp [turns, H1.out, H2.out, H11.out, H12.out, H13.out, H14.out, H15.out]
      go_wp2_with fail
      go_ret
      exact ⟨by rw [HR.out]; rfl, Ew1⟩
     ·have H15 := (show Hid _ from hh)
      clear hh
      go_wp2_with fail
      refine (within_any new 0 99 _).mono ?_
      rintro e w' ⟨rfl, rfl⟩
      cases hh : wi new 0 99
      ·have H16 := (show Hid _ from hh)
       clear hh
       have HR : Hid (recErr n ⟨1, txn, prev, page, cell, old, new, next⟩ = 3) := by rw [Hid, recErr_wi]; simp [turns, H1.out, H2.out, H11.out, H12.out, H13.out, H14.out, H15.out, H16.out]
       go_wp2_with fail
       go_ret
       exact ⟨by rw [HR.out]; rfl, Ew1⟩
      ·have H16 := (show Hid _ from hh)
       clear hh
       go_wp2_with fail
       refine (refTurns_any ⟨1, txn, prev, page, cell, old, new, next⟩ _).mono ?_
       rintro e w2 ⟨rfl, hw2⟩
       rw [show turns ⟨1, txn, prev, page, cell, old, new, next⟩ = true from rfl]
       have Bw2 := Bw1.ext hw2
       have Ew2 : Ext w w2 := Ew1.trans hw2
       have cw2 := Bw2.cell
       cases hz17 : (next != 0)
       ·
        have HR : Hid (recErr n ⟨1, txn, prev, page, cell, old, new, next⟩ = 0) := by rw [Hid, recErr_wi]; simp [turns, H1.out, H2.out, H11.out, H12.out, H13.out, H14.out, H15.out, H16.out, hz17]
        go_wp2_with fail
        go_ret
        exact ⟨by rw [HR.out]; rfl, Ew2⟩
       ·
        have HR : Hid (recErr n ⟨1, txn, prev, page, cell, old, new, next⟩ = 1) := by rw [Hid, recErr_wi]; simp [turns, H1.out, H2.out, H11.out, H12.out, H13.out, H14.out, H15.out, H16.out, hz17]
        go_wp2_with fail
        go_ret
        exact ⟨by rw [HR.out]; rfl, Ew2⟩
theorem recError_k2 (n txn prev page cell old new next : Int) (w : World) (hn : wi n 1 60 = true) :
  Calls Tryz.prog 87 #[.int .i64 n, Rc.val ⟨2, txn, prev, page, cell, old, new, next⟩] w fun e w' => e = .returned (.int .i64 (recErr n ⟨2, txn, prev, page, cell, old, new, next⟩)) ∧ Ext w w' := by
 have H1 := (show Hid _ from hn)
 have n1 : 1 ≤ n ∧ n ≤ 60 := by simpa [wi] using hn
 obtain ⟨n1, n2⟩ := n1
 have H2 : Hid (wi 2 1 4 = true) := rfl
 clear hn
 go_enter Tryz.func87, Tryz.ntmps87
 go_wp2_with fail
 refine (within_any n 1 60 _).mono ?_
 rintro e w' ⟨rfl, rfl⟩
 rw [H1.out]
 go_wp2_with fail
 refine (within_any 2 1 4 _).mono ?_
 rintro e w' ⟨rfl, rfl⟩
 rw [H2.out]
 go_wp2_with fail
 refine (within_any txn 1 9 _).mono ?_
 rintro e w' ⟨rfl, rfl⟩
 cases hh : wi txn 1 9
 ·have H11 := (show Hid _ from hh)
  clear hh
  have HR : Hid (recErr n ⟨2, txn, prev, page, cell, old, new, next⟩ = 3) := by rw [Hid, recErr_wi]; simp [turns, H1.out, H2.out, H11.out]
  go_wp2_with fail
  go_ret
  exact ⟨by rw [HR.out]; rfl, (Ext.refl _).alloc _⟩
 ·have H11 := (show Hid _ from hh)
  clear hh
  go_wp2_with fail
  refine (within_any prev 0 (n - 1) _).mono ?_
  rintro e w' ⟨rfl, rfl⟩
  cases hh : wi prev 0 (n - 1)
  ·have H12 := (show Hid _ from hh)
   clear hh
   have HR : Hid (recErr n ⟨2, txn, prev, page, cell, old, new, next⟩ = 3) := by rw [Hid, recErr_wi]; simp [turns, H1.out, H2.out, H11.out, H12.out]
   go_wp2_with fail
   go_ret
   exact ⟨by rw [HR.out]; rfl, (Ext.refl _).alloc _⟩
  ·have H12 := (show Hid _ from hh)
   clear hh
   go_wp2_with fail
   refine (refTurns_any ⟨2, txn, prev, page, cell, old, new, next⟩ _).mono ?_
   rintro e w1 ⟨rfl, hw1⟩
   rw [show turns ⟨2, txn, prev, page, cell, old, new, next⟩ = false from rfl]
   have Bw1 := (Blk.new w w.heap.size (Rc.cs ⟨2, txn, prev, page, cell, old, new, next⟩) 81 rfl).ext hw1
   have Ew1 : Ext w w1 := ((Ext.refl w).alloc _).trans hw1
   have cw1 := Bw1.cell
   go_wp2_with fail
   refine (refTurns_any ⟨2, txn, prev, page, cell, old, new, next⟩ _).mono ?_
   rintro e w2 ⟨rfl, hw2⟩
   rw [show turns ⟨2, txn, prev, page, cell, old, new, next⟩ = false from rfl]
   have Bw2 := Bw1.ext hw2
   have Ew2 : Ext w w2 := Ew1.trans hw2
   have cw2 := Bw2.cell
   cases hz13 : (page != 0)
   ·
    cases hz14 : (cell != 0)
    ·
     cases hz15 : (old != 0)
     ·
      cases hz16 : (new != 0)
      ·
       cases hz17 : (next != 0)
       ·
        have HR : Hid (recErr n ⟨2, txn, prev, page, cell, old, new, next⟩ = 0) := by rw [Hid, recErr_wi]; simp [turns, H1.out, H2.out, H11.out, H12.out, hz13, hz14, hz15, hz16, hz17]
        go_wp2_with fail
        go_ret
        exact ⟨by rw [HR.out]; rfl, Ew2⟩
       ·
        have HR : Hid (recErr n ⟨2, txn, prev, page, cell, old, new, next⟩ = 1) := by rw [Hid, recErr_wi]; simp [turns, H1.out, H2.out, H11.out, H12.out, hz13, hz14, hz15, hz16, hz17]
        go_wp2_with fail
        go_ret
        exact ⟨by rw [HR.out]; rfl, Ew2⟩
      ·
       have HR : Hid (recErr n ⟨2, txn, prev, page, cell, old, new, next⟩ = 1) := by rw [Hid, recErr_wi]; simp [turns, H1.out, H2.out, H11.out, H12.out, hz13, hz14, hz15, hz16]
       go_wp2_with fail
       go_ret
       exact ⟨by rw [HR.out]; rfl, Ew2⟩
     ·
      have HR : Hid (recErr n ⟨2, txn, prev, page, cell, old, new, next⟩ = 1) := by rw [Hid, recErr_wi]; simp [turns, H1.out, H2.out, H11.out, H12.out, hz13, hz14, hz15]
      go_wp2_with fail
      go_ret
      exact ⟨by rw [HR.out]; rfl, Ew2⟩
    ·
     have HR : Hid (recErr n ⟨2, txn, prev, page, cell, old, new, next⟩ = 1) := by rw [Hid, recErr_wi]; simp [turns, H1.out, H2.out, H11.out, H12.out, hz13, hz14]
     go_wp2_with fail
     go_ret
     exact ⟨by rw [HR.out]; rfl, Ew2⟩
   ·
    have HR : Hid (recErr n ⟨2, txn, prev, page, cell, old, new, next⟩ = 1) := by rw [Hid, recErr_wi]; simp [turns, H1.out, H2.out, H11.out, H12.out, hz13]
    go_wp2_with fail
    go_ret
    exact ⟨by rw [HR.out]; rfl, Ew2⟩
theorem recError_k3 (n txn prev page cell old new next : Int) (w : World) (hn : wi n 1 60 = true) :
  Calls Tryz.prog 87 #[.int .i64 n, Rc.val ⟨3, txn, prev, page, cell, old, new, next⟩] w fun e w' => e = .returned (.int .i64 (recErr n ⟨3, txn, prev, page, cell, old, new, next⟩)) ∧ Ext w w' := by
 have H1 := (show Hid _ from hn)
 have n1 : 1 ≤ n ∧ n ≤ 60 := by simpa [wi] using hn
 obtain ⟨n1, n2⟩ := n1
 have H2 : Hid (wi 3 1 4 = true) := rfl
 clear hn
 go_enter Tryz.func87, Tryz.ntmps87
 go_wp2_with fail
 refine (within_any n 1 60 _).mono ?_
 rintro e w' ⟨rfl, rfl⟩
 rw [H1.out]
 go_wp2_with fail
 refine (within_any 3 1 4 _).mono ?_
 rintro e w' ⟨rfl, rfl⟩
 rw [H2.out]
 go_wp2_with fail
 refine (within_any txn 1 9 _).mono ?_
 rintro e w' ⟨rfl, rfl⟩
 cases hh : wi txn 1 9
 ·have H11 := (show Hid _ from hh)
  clear hh
  have HR : Hid (recErr n ⟨3, txn, prev, page, cell, old, new, next⟩ = 3) := by rw [Hid, recErr_wi]; simp [turns, H1.out, H2.out, H11.out]
  go_wp2_with fail
  go_ret
  exact ⟨by rw [HR.out]; rfl, (Ext.refl _).alloc _⟩
 ·have H11 := (show Hid _ from hh)
  clear hh
  go_wp2_with fail
  refine (within_any prev 0 (n - 1) _).mono ?_
  rintro e w' ⟨rfl, rfl⟩
  cases hh : wi prev 0 (n - 1)
  ·have H12 := (show Hid _ from hh)
   clear hh
   have HR : Hid (recErr n ⟨3, txn, prev, page, cell, old, new, next⟩ = 3) := by rw [Hid, recErr_wi]; simp [turns, H1.out, H2.out, H11.out, H12.out]
   go_wp2_with fail
   go_ret
   exact ⟨by rw [HR.out]; rfl, (Ext.refl _).alloc _⟩
  ·have H12 := (show Hid _ from hh)
   clear hh
   go_wp2_with fail
   refine (refTurns_any ⟨3, txn, prev, page, cell, old, new, next⟩ _).mono ?_
   rintro e w1 ⟨rfl, hw1⟩
   rw [show turns ⟨3, txn, prev, page, cell, old, new, next⟩ = true from rfl]
   have Bw1 := (Blk.new w w.heap.size (Rc.cs ⟨3, txn, prev, page, cell, old, new, next⟩) 81 rfl).ext hw1
   have Ew1 : Ext w w1 := ((Ext.refl w).alloc _).trans hw1
   have cw1 := Bw1.cell
   go_wp2_with fail
   refine (within_any page 0 2 _).mono ?_
   rintro e w' ⟨rfl, rfl⟩
   cases hh : wi page 0 2
   ·have H13 := (show Hid _ from hh)
    clear hh
    have HR : Hid (recErr n ⟨3, txn, prev, page, cell, old, new, next⟩ = 3) := by rw [Hid, recErr_wi]; simp [turns, H1.out, H2.out, H11.out, H12.out, H13.out]
    go_wp2_with fail
    go_ret
    exact ⟨by rw [HR.out]; rfl, Ew1⟩
   ·have H13 := (show Hid _ from hh)
    clear hh
    go_wp2_with fail
    refine (within_any cell 0 2 _).mono ?_
    rintro e w' ⟨rfl, rfl⟩
    cases hh : wi cell 0 2
    ·have H14 := (show Hid _ from hh)
     clear hh
     have HR : Hid (recErr n ⟨3, txn, prev, page, cell, old, new, next⟩ = 3) := by rw [Hid, recErr_wi]; simp [turns, H1.out, H2.out, H11.out, H12.out, H13.out, H14.out]
     go_wp2_with fail
     go_ret
     exact ⟨by rw [HR.out]; rfl, Ew1⟩
    ·have H14 := (show Hid _ from hh)
     clear hh
     go_wp2_with fail
     refine (within_any old 0 99 _).mono ?_
     rintro e w' ⟨rfl, rfl⟩
     cases hh : wi old 0 99
     ·have H15 := (show Hid _ from hh)
      clear hh
      have HR : Hid (recErr n ⟨3, txn, prev, page, cell, old, new, next⟩ = 3) := by rw [Hid, recErr_wi]; simp [turns, H1.out, H2.out, H11.out, H12.out, H13.out, H14.out, H15.out]
      go_wp2_with fail
      go_ret
      exact ⟨by rw [HR.out]; rfl, Ew1⟩
     ·have H15 := (show Hid _ from hh)
      clear hh
      go_wp2_with fail
      refine (within_any new 0 99 _).mono ?_
      rintro e w' ⟨rfl, rfl⟩
      cases hh : wi new 0 99
      ·have H16 := (show Hid _ from hh)
       clear hh
       have HR : Hid (recErr n ⟨3, txn, prev, page, cell, old, new, next⟩ = 3) := by rw [Hid, recErr_wi]; simp [turns, H1.out, H2.out, H11.out, H12.out, H13.out, H14.out, H15.out, H16.out]
       go_wp2_with fail
       go_ret
       exact ⟨by rw [HR.out]; rfl, Ew1⟩
      ·have H16 := (show Hid _ from hh)
       clear hh
       go_wp2_with fail
       refine (within_any next 0 (n - 1) _).mono ?_
       rintro e w' ⟨rfl, rfl⟩
       cases hh : wi next 0 (n - 1)
       ·have H17 := (show Hid _ from hh)
        clear hh
        have HR : Hid (recErr n ⟨3, txn, prev, page, cell, old, new, next⟩ = 3) := by rw [Hid, recErr_wi]; simp [turns, H1.out, H2.out, H11.out, H12.out, H13.out, H14.out, H15.out, H16.out, H17.out]
        go_wp2_with fail
        go_ret
        exact ⟨by rw [HR.out]; rfl, Ew1⟩
       ·have H17 := (show Hid _ from hh)
        clear hh
        go_wp2_with fail
        refine (refTurns_any ⟨3, txn, prev, page, cell, old, new, next⟩ _).mono ?_
        rintro e w2 ⟨rfl, hw2⟩
        rw [show turns ⟨3, txn, prev, page, cell, old, new, next⟩ = true from rfl]
        have Bw2 := Bw1.ext hw2
        have Ew2 : Ext w w2 := Ew1.trans hw2
        have cw2 := Bw2.cell
        have HR : Hid (recErr n ⟨3, txn, prev, page, cell, old, new, next⟩ = 0) := by rw [Hid, recErr_wi]; simp [turns, H1.out, H2.out, H11.out, H12.out, H13.out, H14.out, H15.out, H16.out, H17.out]
        go_wp2_with fail
        go_ret
        exact ⟨by rw [HR.out]; rfl, Ew2⟩
theorem recError_k4 (n txn prev page cell old new next : Int) (w : World) (hn : wi n 1 60 = true) :
  Calls Tryz.prog 87 #[.int .i64 n, Rc.val ⟨4, txn, prev, page, cell, old, new, next⟩] w fun e w' => e = .returned (.int .i64 (recErr n ⟨4, txn, prev, page, cell, old, new, next⟩)) ∧ Ext w w' := by
 have H1 := (show Hid _ from hn)
 have n1 : 1 ≤ n ∧ n ≤ 60 := by simpa [wi] using hn
 obtain ⟨n1, n2⟩ := n1
 have H2 : Hid (wi 4 1 4 = true) := rfl
 clear hn
 go_enter Tryz.func87, Tryz.ntmps87
 go_wp2_with fail
 refine (within_any n 1 60 _).mono ?_
 rintro e w' ⟨rfl, rfl⟩
 rw [H1.out]
 go_wp2_with fail
 refine (within_any 4 1 4 _).mono ?_
 rintro e w' ⟨rfl, rfl⟩
 rw [H2.out]
 go_wp2_with fail
 refine (within_any txn 1 9 _).mono ?_
 rintro e w' ⟨rfl, rfl⟩
 cases hh : wi txn 1 9
 ·have H11 := (show Hid _ from hh)
  clear hh
  have HR : Hid (recErr n ⟨4, txn, prev, page, cell, old, new, next⟩ = 3) := by rw [Hid, recErr_wi]; simp [turns, H1.out, H2.out, H11.out]
  go_wp2_with fail
  go_ret
  exact ⟨by rw [HR.out]; rfl, (Ext.refl _).alloc _⟩
 ·have H11 := (show Hid _ from hh)
  clear hh
  go_wp2_with fail
  refine (within_any prev 0 (n - 1) _).mono ?_
  rintro e w' ⟨rfl, rfl⟩
  cases hh : wi prev 0 (n - 1)
  ·have H12 := (show Hid _ from hh)
   clear hh
   have HR : Hid (recErr n ⟨4, txn, prev, page, cell, old, new, next⟩ = 3) := by rw [Hid, recErr_wi]; simp [turns, H1.out, H2.out, H11.out, H12.out]
   go_wp2_with fail
   go_ret
   exact ⟨by rw [HR.out]; rfl, (Ext.refl _).alloc _⟩
  ·have H12 := (show Hid _ from hh)
   clear hh
   go_wp2_with fail
   refine (refTurns_any ⟨4, txn, prev, page, cell, old, new, next⟩ _).mono ?_
   rintro e w1 ⟨rfl, hw1⟩
   rw [show turns ⟨4, txn, prev, page, cell, old, new, next⟩ = false from rfl]
   have Bw1 := (Blk.new w w.heap.size (Rc.cs ⟨4, txn, prev, page, cell, old, new, next⟩) 81 rfl).ext hw1
   have Ew1 : Ext w w1 := ((Ext.refl w).alloc _).trans hw1
   have cw1 := Bw1.cell
   go_wp2_with fail
   refine (refTurns_any ⟨4, txn, prev, page, cell, old, new, next⟩ _).mono ?_
   rintro e w2 ⟨rfl, hw2⟩
   rw [show turns ⟨4, txn, prev, page, cell, old, new, next⟩ = false from rfl]
   have Bw2 := Bw1.ext hw2
   have Ew2 : Ext w w2 := Ew1.trans hw2
   have cw2 := Bw2.cell
   cases hz13 : (page != 0)
   ·
    cases hz14 : (cell != 0)
    ·
     cases hz15 : (old != 0)
     ·
      cases hz16 : (new != 0)
      ·
       cases hz17 : (next != 0)
       ·
        have HR : Hid (recErr n ⟨4, txn, prev, page, cell, old, new, next⟩ = 0) := by rw [Hid, recErr_wi]; simp [turns, H1.out, H2.out, H11.out, H12.out, hz13, hz14, hz15, hz16, hz17]
        go_wp2_with fail
        go_ret
        exact ⟨by rw [HR.out]; rfl, Ew2⟩
       ·
        have HR : Hid (recErr n ⟨4, txn, prev, page, cell, old, new, next⟩ = 1) := by rw [Hid, recErr_wi]; simp [turns, H1.out, H2.out, H11.out, H12.out, hz13, hz14, hz15, hz16, hz17]
        go_wp2_with fail
        go_ret
        exact ⟨by rw [HR.out]; rfl, Ew2⟩
      ·
       have HR : Hid (recErr n ⟨4, txn, prev, page, cell, old, new, next⟩ = 1) := by rw [Hid, recErr_wi]; simp [turns, H1.out, H2.out, H11.out, H12.out, hz13, hz14, hz15, hz16]
       go_wp2_with fail
       go_ret
       exact ⟨by rw [HR.out]; rfl, Ew2⟩
     ·
      have HR : Hid (recErr n ⟨4, txn, prev, page, cell, old, new, next⟩ = 1) := by rw [Hid, recErr_wi]; simp [turns, H1.out, H2.out, H11.out, H12.out, hz13, hz14, hz15]
      go_wp2_with fail
      go_ret
      exact ⟨by rw [HR.out]; rfl, Ew2⟩
    ·
     have HR : Hid (recErr n ⟨4, txn, prev, page, cell, old, new, next⟩ = 1) := by rw [Hid, recErr_wi]; simp [turns, H1.out, H2.out, H11.out, H12.out, hz13, hz14]
     go_wp2_with fail
     go_ret
     exact ⟨by rw [HR.out]; rfl, Ew2⟩
   ·
    have HR : Hid (recErr n ⟨4, txn, prev, page, cell, old, new, next⟩ = 1) := by rw [Hid, recErr_wi]; simp [turns, H1.out, H2.out, H11.out, H12.out, hz13]
    go_wp2_with fail
    go_ret
    exact ⟨by rw [HR.out]; rfl, Ew2⟩
theorem wi_kind {k : Int} (h : wi k 1 4 = true) : k = 1 ∨ k = 2 ∨ k = 3 ∨ k = 4 := by simp [wi] at h; omega
theorem recError_any (n : Int) (r : Rc) (w : World) :
  Calls Tryz.prog 87 #[.int .i64 n, r.val] w fun e w' => e = .returned (.int .i64 (recErr n r)) ∧ Ext w w' := by
 cases h1 : wi n 1 60
 ·have H1 := (show Hid _ from h1)
  have HR : Hid (recErr n r = 3) := by rw [Hid, recErr_wi]; simp [h1]
  clear h1
  go_enter Tryz.func87, Tryz.ntmps87
  go_wp2_with fail
  refine (within_any n 1 60 _).mono ?_
  rintro e w' ⟨rfl, rfl⟩
  rw [H1.out]
  go_wp2_with fail
  go_ret
  exact ⟨by rw [HR.out]; rfl, (Ext.refl _).alloc _⟩
 ·cases h2 : wi r.kind 1 4
  ·have H1 := (show Hid _ from h1)
   have H2 := (show Hid _ from h2)
   have HR : Hid (recErr n r = 4) := by rw [Hid, recErr_wi]; simp [h1, h2]
   clear h1 h2
   go_enter Tryz.func87, Tryz.ntmps87
   go_wp2_with fail
   refine (within_any n 1 60 _).mono ?_
   rintro e w' ⟨rfl, rfl⟩
   rw [H1.out]
   go_wp2_with fail
   refine (within_any r.kind 1 4 _).mono ?_
   rintro e w' ⟨rfl, rfl⟩
   rw [H2.out]
   go_wp2_with fail
   go_ret
   exact ⟨by rw [HR.out]; rfl, (Ext.refl _).alloc _⟩
  ·obtain ⟨kind, txn, prev, page, cell, old, new, next⟩ := r
   rcases wi_kind h2 with h | h | h | h
   ·obtain rfl : kind = 1 := h
    exact recError_k1 n txn prev page cell old new next w h1
   ·obtain rfl : kind = 2 := h
    exact recError_k2 n txn prev page cell old new next w h1
   ·obtain rfl : kind = 3 := h
    exact recError_k3 n txn prev page cell old new next w h1
   ·obtain rfl : kind = 4 := h
    exact recError_k4 n txn prev page cell old new next w h1
end Go.Proofs.YtibfgbmhmdggmaaGreatDoor.B
