/- The contracts of package page and of the reference's page functions. · The contracts of package rec: what Check and Turns answer, whatever they are handed. -/
import Derived.Test.YtibfgbmhmdggmaaGreatDoorBaseA
namespace Go.Proofs.YtibfgbmhmdggmaaGreatDoor.B
set_option maxHeartbeats 32000000
set_option maxRecDepth 100000
open Go.ChangeShapes Go.WideShapes Go.ChangeAt Go.RowKit
def pgErr (p : Pg) : Int := if out 0 99 [p.c0, p.c1, p.c2] || out 0 60 [p.last] then 3 else 0
theorem check1 (p : Pg) (b : Nat) (w : World) (h0 : w.cell? ⟨b, 0, none⟩ = some (.int .i64 p.c0)) (h1 : w.cell? ⟨b, 1, none⟩ = some (.int .i64 p.c1)) (h2 : w.cell? ⟨b, 2, none⟩ = some (.int .i64 p.c2)) :
  Calls Tryz.prog 227 #[.pointer (some ⟨b, 0, none⟩)] w fun e w' => e = .returned (.bool (out 0 99 [p.c0, p.c1, p.c2])) ∧ Ext w w' := by
 go_enter Tryz.func227, Tryz.ntmps227
 go_wp2_with fail
 refine (outside_n 3 0 99 b 0 3 [p.c0, p.c1, p.c2] w rfl (by decide) (cells3 h0 h1 h2)).mono ?_
 rintro e w1 ⟨rfl, rfl⟩
 go_wp2
 go_ret
 exact ⟨rfl, Ext.refl _⟩
theorem check2 (p : Pg) (b : Nat) (w : World) (h3 : w.cell? ⟨b, 3, none⟩ = some (.int .i64 p.last)) :
  Calls Tryz.prog 228 #[.pointer (some ⟨b, 0, none⟩)] w fun e w' => e = .returned (.bool (out 0 60 [p.last])) ∧ Ext w w' := by
 go_enter Tryz.func228, Tryz.ntmps228
 go_wp2_with fail
 refine (outside_n 1 0 60 _ 0 1 [p.last] _ rfl (by decide) (cells1 (by simp [go_sem]))).mono ?_
 rintro e w1 ⟨rfl, rfl⟩
 go_wp2
 go_ret
 exact ⟨rfl, (Ext.refl _).alloc _⟩
theorem check1_ans (p : Pg) (b : Nat) (w : World) (h0 : w.cell? ⟨b, 0, none⟩ = some (.int .i64 p.c0)) (h1 : w.cell? ⟨b, 1, none⟩ = some (.int .i64 p.c1)) (h2 : w.cell? ⟨b, 2, none⟩ = some (.int .i64 p.c2)) :
  Ans 227 #[.pointer (some ⟨b, 0, none⟩)] w (out 0 99 [p.c0, p.c1, p.c2]) :=
 ⟨fun w => callFunc_enter _ w Tryz.func227 (by kernel_rfl) (by kernel_rfl), fun w' h => check1 p b w' (h.cell h0) (h.cell h1) (h.cell h2)⟩
theorem check2_ans (p : Pg) (b : Nat) (w : World) (h3 : w.cell? ⟨b, 3, none⟩ = some (.int .i64 p.last)) :
  Ans 228 #[.pointer (some ⟨b, 0, none⟩)] w (out 0 60 [p.last]) :=
 ⟨fun w => callFunc_enter _ w Tryz.func228 (by kernel_rfl) (by kernel_rfl), fun w' h => check2 p b w' (h.cell h3)⟩
theorem pgErr_or (p : Pg) {b : Bool} (h : (out 0 99 [p.c0, p.c1, p.c2] || out 0 60 [p.last]) = b) : pgErr p = if b then 3 else 0 := by
 unfold pgErr; rw [h]
theorem check_any (p : Pg) (w : World) :
  Calls Tryz.prog 218 #[p.val] w fun e w' => e = .returned (.int .i64 (pgErr p)) ∧ Ext w w' := by
 go_enter Tryz.func218, Tryz.ntmps218
 go_wp2_with fail
 refine (any2 227 228 #[.pointer (some ⟨w.heap.size, 0, none⟩)] #[.pointer (some ⟨w.heap.size, 0, none⟩)] _ _ (by simp [go_sem]) (by simp [go_sem]) (check1_ans p _ _ (by simp [go_sem]) (by simp [go_sem]) (by simp [go_sem])) (fun _ => check2_ans p _ _ (by simp [go_sem]))).mono ?_
 rintro e w1 ⟨rfl, hw1⟩
 have hE : Ext w w1 := ((Ext.refl _).alloc _).alloc _ |>.trans hw1
 cases hb : (out 0 99 [p.c0, p.c1, p.c2] || out 0 60 [p.last])
 ·have HB := (show Hid _ from pgErr_or p hb)
  clear hb
  go_wp2
  go_ret
  exact ⟨by rw [HB.out]; rfl, hE⟩
 ·have HB := (show Hid _ from pgErr_or p hb)
  clear hb
  go_wp2
  go_ret
  exact ⟨by rw [HB.out]; rfl, hE⟩
theorem wi_not (n lo hi : Int) : (!wi n lo hi) = (decide (n < lo) || decide (hi < n)) := by
 unfold wi
 by_cases h1 : lo ≤ n <;> by_cases h2 : n ≤ hi <;> simp [h1, h2] <;> omega
theorem out_one (lo hi n : Int) : out lo hi [n] = !wi n lo hi := by
 rw [wi_not]; simp [out]
def pgSet (p : Pg) (cell val n : Int) : Pg := if cell = 0 then ⟨val, p.c1, p.c2, n⟩ else if cell = 1 then ⟨p.c0, val, p.c2, n⟩ else ⟨p.c0, p.c1, val, n⟩
def setBad (cell val n : Int) : Bool := out 0 2 [cell] || (out 0 99 [val] || out 1 60 [n])
def setOf (p : Pg) (cell val n : Int) : Pg × Int := if pgErr p = 0 then (if setBad cell val n then (⟨0, 0, 0, 0⟩, 3) else (pgSet p cell val n, 0)) else (⟨0, 0, 0, 0⟩, 3)
theorem setOf_bad1 {p : Pg} {cell val n : Int} (h : pgErr p = 3) : setOf p cell val n = (⟨0, 0, 0, 0⟩, 3) := by simp [setOf, h]
theorem setOf_bad2 {p : Pg} {cell val n : Int} (h : pgErr p = 0) (hb : setBad cell val n = true) : setOf p cell val n = (⟨0, 0, 0, 0⟩, 3) := by simp [setOf, h, hb]
theorem setOf_good {p : Pg} {cell val n : Int} (h : pgErr p = 0) (hb : setBad cell val n = false) : setOf p cell val n = (pgSet p cell val n, 0) := by simp [setOf, h, hb]
theorem pgErr_cases (p : Pg) : pgErr p = 0 ∨ pgErr p = 3 := by unfold pgErr; split <;> simp
theorem setBad_cell {cell val n : Int} (hb : setBad cell val n = false) : cell = 0 ∨ cell = 1 ∨ cell = 2 := by
 simp [setBad, out] at hb; omega
theorem set1 (x : Int) (b : Nat) (w : World) (h0 : w.cell? ⟨b, 0, none⟩ = some (.int .i64 x)) :
  Calls Tryz.prog 219 #[.pointer (some ⟨b, 0, none⟩)] w fun e w' => e = .returned (.bool (out 0 2 [x])) ∧ Ext w w' := by
 go_enter Tryz.func219, Tryz.ntmps219
 go_wp2_with fail
 refine (outside_n 1 0 2 _ 0 1 [x] _ rfl (by decide) (cells1 (by simp [go_sem]))).mono ?_
 rintro e w1 ⟨rfl, rfl⟩
 go_wp2
 go_ret
 exact ⟨rfl, (Ext.refl _).alloc _⟩
theorem set2 (x : Int) (b : Nat) (w : World) (h0 : w.cell? ⟨b, 0, none⟩ = some (.int .i64 x)) :
  Calls Tryz.prog 220 #[.pointer (some ⟨b, 0, none⟩)] w fun e w' => e = .returned (.bool (out 0 99 [x])) ∧ Ext w w' := by
 go_enter Tryz.func220, Tryz.ntmps220
 go_wp2_with fail
 refine (outside_n 1 0 99 _ 0 1 [x] _ rfl (by decide) (cells1 (by simp [go_sem]))).mono ?_
 rintro e w1 ⟨rfl, rfl⟩
 go_wp2
 go_ret
 exact ⟨rfl, (Ext.refl _).alloc _⟩
theorem set3 (x : Int) (b : Nat) (w : World) (h0 : w.cell? ⟨b, 0, none⟩ = some (.int .i64 x)) :
  Calls Tryz.prog 221 #[.pointer (some ⟨b, 0, none⟩)] w fun e w' => e = .returned (.bool (out 1 60 [x])) ∧ Ext w w' := by
 go_enter Tryz.func221, Tryz.ntmps221
 go_wp2_with fail
 refine (outside_n 1 1 60 _ 0 1 [x] _ rfl (by decide) (cells1 (by simp [go_sem]))).mono ?_
 rintro e w1 ⟨rfl, rfl⟩
 go_wp2
 go_ret
 exact ⟨rfl, (Ext.refl _).alloc _⟩
theorem set1_ans (x : Int) (b : Nat) (w : World) (h0 : w.cell? ⟨b, 0, none⟩ = some (.int .i64 x)) : Ans 219 #[.pointer (some ⟨b, 0, none⟩)] w (out 0 2 [x]) :=
 ⟨fun w => callFunc_enter _ w Tryz.func219 (by kernel_rfl) (by kernel_rfl), fun w' h => set1 x b w' (h.cell h0)⟩
theorem set2_ans (x : Int) (b : Nat) (w : World) (h0 : w.cell? ⟨b, 0, none⟩ = some (.int .i64 x)) : Ans 220 #[.pointer (some ⟨b, 0, none⟩)] w (out 0 99 [x]) :=
 ⟨fun w => callFunc_enter _ w Tryz.func220 (by kernel_rfl) (by kernel_rfl), fun w' h => set2 x b w' (h.cell h0)⟩
theorem set3_ans (x : Int) (b : Nat) (w : World) (h0 : w.cell? ⟨b, 0, none⟩ = some (.int .i64 x)) : Ans 221 #[.pointer (some ⟨b, 0, none⟩)] w (out 1 60 [x]) :=
 ⟨fun w => callFunc_enter _ w Tryz.func221 (by kernel_rfl) (by kernel_rfl), fun w' h => set3 x b w' (h.cell h0)⟩
theorem set_any (p : Pg) (cell val n : Int) (w : World) :
  Calls Tryz.prog 200 #[p.val, .int .i64 cell, .int .i64 val, .int .i64 n] w fun e w' => e = .returned (.tuple #[(setOf p cell val n).1.val, .int .i64 (setOf p cell val n).2]) ∧ Ext w w' := by
 rcases pgErr_cases p with hp | hp
 all_goals
  have HP := (show Hid _ from hp)
  clear hp
  go_enter Tryz.func200, Tryz.ntmps200
  go_wp2_with fail
  refine (check_any p _).mono ?_
  rintro e w1 ⟨rfl, hw1⟩
  rw [HP.out]
  have B0 := Blk.ext (k := w.heap.size) (by repeat (first | (apply Blk.new; simp; done) | apply Blk.alloc)) hw1
  have B1 := Blk.ext (k := w.heap.size + 1) (by repeat (first | (apply Blk.new; simp; done) | apply Blk.alloc)) hw1
  have B2 := Blk.ext (k := w.heap.size + 1 + 1) (by repeat (first | (apply Blk.new; simp; done) | apply Blk.alloc)) hw1
  have B3 := Blk.ext (k := w.heap.size + 1 + 1 + 1) (by repeat (first | (apply Blk.new; simp; done) | apply Blk.alloc)) hw1
  have B4 := Blk.ext (k := w.heap.size + 1 + 1 + 1 + 1) (by repeat (first | (apply Blk.new; simp; done) | apply Blk.alloc)) hw1
  have hE : Ext w w1 := Ext.trans (by repeat (first | exact Ext.refl _ | apply Ext.alloc)) hw1
  clear hw1
  have L0 := B0.lt
  have L4 := B4.lt
 ·have c1 := B1.cell
  have c2 := B2.cell
  have c3 := B3.cell
  clear c1 c2 c3
  go_wp2_with fail
  refine (any3 219 220 221 #[.pointer (some ⟨w.heap.size + 1, 0, none⟩)] #[.pointer (some ⟨w.heap.size + 1 + 1, 0, none⟩)] #[.pointer (some ⟨w.heap.size + 1 + 1 + 1, 0, none⟩)] _ _ _ (by simp [go_sem]) (by simp [go_sem]) (by simp [go_sem])
   (set1_ans cell _ _ ((B1.alloc _).cell 0)) (fun _ => set2_ans val _ _ ((B2.alloc _).cell 0)) (fun _ _ => set3_ans n _ _ ((B3.alloc _).cell 0))).mono ?_
  rintro e w2 ⟨rfl, hw2⟩
  have D0 := (B0.alloc _).ext hw2
  have D1 := (B1.alloc _).ext hw2
  have D2 := (B2.alloc _).ext hw2
  have D3 := (B3.alloc _).ext hw2
  have D4 := (B4.alloc _).ext hw2
  have hE2 : Ext w w2 := (hE.alloc _).trans hw2
  clear B0 B1 B2 B3 B4 hE hw2 L0 L4
  have hs : Hid (setBad cell val n = (out 0 2 [cell] || (out 0 99 [val] || out 1 60 [n]))) := rfl
  cases hb : (out 0 2 [cell] || (out 0 99 [val] || out 1 60 [n]))
  ·have HB : Hid (setBad cell val n = false) := by rw [Hid, hs.out, hb]
   clear hb hs
   have HG := (show Hid _ from setOf_good HP.out HB.out)
   have hcell := setBad_cell HB.out
   have c0 := D0.cell
   have c1 := D1.cell
   have c2 := D2.cell
   have c3 := D3.cell
   have c4 := D4.cell
   have f0 := D0.fr
   have f4 := D4.fr
   rcases hcell with h | h | h
   ·subst h
    go_wp2_with fail
    refine bodyPost_ret (v := .tuple #[.agg #[.int .i64 val, .int .i64 p.c1, .int .i64 p.c2, .int .i64 n], .int .i64 0]) (by simp [results, Tryz.results200, go_sem, c4]) rfl ⟨by rw [HG.out]; rfl, ?_⟩
    exact (((((hE2.setCell (Nat.le_refl _) _).setCell (Nat.le_refl _) _).setCell (by simp; omega) _).setCell (by simp; omega) _).setCell (by simp; omega) _).setCell (by simp; omega) _
   ·subst h
    go_wp2_with fail
    refine bodyPost_ret (v := .tuple #[.agg #[.int .i64 p.c0, .int .i64 val, .int .i64 p.c2, .int .i64 n], .int .i64 0]) (by simp [results, Tryz.results200, go_sem, c4]) rfl ⟨by rw [HG.out]; rfl, ?_⟩
    exact (((((hE2.setCell (Nat.le_refl _) _).setCell (Nat.le_refl _) _).setCell (by simp; omega) _).setCell (by simp; omega) _).setCell (by simp; omega) _).setCell (by simp; omega) _
   ·subst h
    go_wp2_with fail
    refine bodyPost_ret (v := .tuple #[.agg #[.int .i64 p.c0, .int .i64 p.c1, .int .i64 val, .int .i64 n], .int .i64 0]) (by simp [results, Tryz.results200, go_sem, c4]) rfl ⟨by rw [HG.out]; rfl, ?_⟩
    exact (((((hE2.setCell (Nat.le_refl _) _).setCell (Nat.le_refl _) _).setCell (by simp; omega) _).setCell (by simp; omega) _).setCell (by simp; omega) _).setCell (by simp; omega) _
  ·have HB : Hid (setBad cell val n = true) := by rw [Hid, hs.out, hb]
   clear hb hs
   have HG := (show Hid _ from setOf_bad2 HP.out HB.out)
   have c4 := D4.cell
   have f4 := D4.fr
   go_wp2_with fail
   refine bodyPost_ret (v := .tuple #[.agg #[.int .i64 0, .int .i64 0, .int .i64 0, .int .i64 0], .int .i64 3]) (by simp [results, Tryz.results200, go_sem, c4]) rfl ⟨by rw [HG.out], ?_⟩
   exact (((hE2.setCell (by simp; omega) _).setCell (by simp; omega) _).setCell (by simp; omega) _).setCell (by simp; omega) _
 ·have HG := (show Hid _ from setOf_bad1 (cell := cell) (val := val) (n := n) HP.out)
  have c4 := B4.cell
  have f4 := B4.fr
  go_wp2_with fail
  refine bodyPost_ret (v := .tuple #[.agg #[.int .i64 0, .int .i64 0, .int .i64 0, .int .i64 0], .int .i64 3]) (by simp [results, Tryz.results200, go_sem, c4]) rfl ⟨by rw [HG.out], ?_⟩
  exact (((hE.setCell (by simp; omega) _).setCell (by simp; omega) _).setCell (by simp; omega) _).setCell (by simp; omega) _
abbrev Rc.cs (r : Rc) : Array Value := #[.int .i64 r.kind, .int .i64 r.txn, .int .i64 r.prev, .int .i64 r.page, .int .i64 r.cell, .int .i64 r.old, .int .i64 r.new, .int .i64 r.next]
def turns (r : Rc) : Bool := r.kind == 1 || r.kind == 3
def cellOut (r : Rc) : Bool := out 0 2 [r.page] || (out 0 2 [r.cell] || out 0 99 [r.old, r.new])
def outOf (n : Int) (r : Rc) : Bool := out 1 9 [r.txn] || (out 0 (n - 1) [r.prev] || ((turns r && cellOut r) || (r.kind == 3 && out 0 (n - 1) [r.next])))
def tooMuch (r : Rc) : Bool := (!turns r && out 0 0 [r.page, r.cell, r.old, r.new]) || (r.kind != 3 && r.next != 0)
def recErr (n : Int) (r : Rc) : Int := if out 1 60 [n] then 3 else if out 1 4 [r.kind] then 4 else if outOf n r then 3 else if tooMuch r then 1 else 0
theorem out1_false {lo hi n : Int} (h : out lo hi [n] = false) : lo ≤ n ∧ n ≤ hi := by simp [out] at h; omega
theorem turns_any (r : Rc) (w : World) :
  Calls Tryz.prog 199 #[r.val] w fun e w' => e = .returned (.bool (turns r)) ∧ Ext w w' := by
 have hT : Hid (turns r = (r.kind == 1 || r.kind == 3)) := rfl
 cases h1 : (r.kind == 1)
 ·cases h3 : (r.kind == 3)
  ·have HT : Hid (turns r = false) := by rw [Hid, hT.out, h1, h3]; exact rfl
   go_enter Tryz.func199, Tryz.ntmps199
   go_wp2_with fail
   go_ret
   exact ⟨by rw [HT.out]; rfl, (Ext.refl _).alloc _⟩
  ·have HT : Hid (turns r = true) := by rw [Hid, hT.out, h1, h3]; exact rfl
   go_enter Tryz.func199, Tryz.ntmps199
   go_wp2_with fail
   go_ret
   exact ⟨by rw [HT.out]; rfl, (Ext.refl _).alloc _⟩
 ·have HT : Hid (turns r = true) := by rw [Hid, hT.out, h1]; rfl
  go_enter Tryz.func199, Tryz.ntmps199
  go_wp2_with fail
  go_ret
  exact ⟨by rw [HT.out]; rfl, (Ext.refl _).alloc _⟩
theorem cellOut1 (r : Rc) (b : Nat) (w : World) (B : Blk w b r.cs 81) :
  Calls Tryz.prog 224 #[.pointer (some ⟨b, 0, none⟩)] w fun e w' => e = .returned (.bool (out 0 2 [r.page])) ∧ Ext w w' := by
 have c := B.cell
 go_enter Tryz.func224, Tryz.ntmps224
 go_wp2_with fail
 refine (outside_n 1 0 2 _ 0 1 [r.page] _ rfl (by decide) (cells1 (by simp [go_sem]))).mono ?_
 rintro e w1 ⟨rfl, rfl⟩
 go_wp2
 go_ret
 exact ⟨rfl, (Ext.refl _).alloc _⟩
theorem cellOut1_ans (r : Rc) (b : Nat) (w : World) (B : Blk w b r.cs 81) : Ans 224 #[.pointer (some ⟨b, 0, none⟩)] w (out 0 2 [r.page]) :=
 ⟨fun w => callFunc_enter _ w Tryz.func224 (by kernel_rfl) (by kernel_rfl), fun w' h => cellOut1 r b w' (B.ext h)⟩
theorem cellOut2 (r : Rc) (b : Nat) (w : World) (B : Blk w b r.cs 81) :
  Calls Tryz.prog 225 #[.pointer (some ⟨b, 0, none⟩)] w fun e w' => e = .returned (.bool (out 0 2 [r.cell])) ∧ Ext w w' := by
 have c := B.cell
 go_enter Tryz.func225, Tryz.ntmps225
 go_wp2_with fail
 refine (outside_n 1 0 2 _ 0 1 [r.cell] _ rfl (by decide) (cells1 (by simp [go_sem]))).mono ?_
 rintro e w1 ⟨rfl, rfl⟩
 go_wp2
 go_ret
 exact ⟨rfl, (Ext.refl _).alloc _⟩
theorem cellOut2_ans (r : Rc) (b : Nat) (w : World) (B : Blk w b r.cs 81) : Ans 225 #[.pointer (some ⟨b, 0, none⟩)] w (out 0 2 [r.cell]) :=
 ⟨fun w => callFunc_enter _ w Tryz.func225 (by kernel_rfl) (by kernel_rfl), fun w' h => cellOut2 r b w' (B.ext h)⟩
theorem cellOut3 (r : Rc) (b : Nat) (w : World) (B : Blk w b r.cs 81) :
  Calls Tryz.prog 226 #[.pointer (some ⟨b, 0, none⟩)] w fun e w' => e = .returned (.bool (out 0 99 [r.old, r.new])) ∧ Ext w w' := by
 have c := B.cell
 go_enter Tryz.func226, Tryz.ntmps226
 go_wp2_with fail
 refine (outside_n 2 0 99 _ 0 2 [r.old, r.new] _ rfl (by decide) (cells2 (by simp [go_sem]) (by simp [go_sem]))).mono ?_
 rintro e w1 ⟨rfl, rfl⟩
 go_wp2
 go_ret
 exact ⟨rfl, (Ext.refl _).alloc _⟩
theorem cellOut3_ans (r : Rc) (b : Nat) (w : World) (B : Blk w b r.cs 81) : Ans 226 #[.pointer (some ⟨b, 0, none⟩)] w (out 0 99 [r.old, r.new]) :=
 ⟨fun w => callFunc_enter _ w Tryz.func226 (by kernel_rfl) (by kernel_rfl), fun w' h => cellOut3 r b w' (B.ext h)⟩
theorem cellOut_any (r : Rc) (w : World) :
  Calls Tryz.prog 212 #[r.val] w fun e w' => e = .returned (.bool (cellOut r)) ∧ Ext w w' := by
 go_enter Tryz.func212, Tryz.ntmps212
 go_wp2_with fail
 refine (any3 224 225 226 #[.pointer (some ⟨w.heap.size, 0, none⟩)] #[.pointer (some ⟨w.heap.size, 0, none⟩)] #[.pointer (some ⟨w.heap.size, 0, none⟩)] _ _ _ (by simp [go_sem]) (by simp [go_sem]) (by simp [go_sem])
  (cellOut1_ans r _ _ ((Blk.new _ _ _ _ rfl).alloc _)) (fun _ => cellOut2_ans r _ _ ((Blk.new _ _ _ _ rfl).alloc _)) (fun _ _ => cellOut3_ans r _ _ ((Blk.new _ _ _ _ rfl).alloc _))).mono ?_
 rintro e w1 ⟨rfl, hw1⟩
 go_wp2
 go_ret
 exact ⟨rfl, (((Ext.refl _).alloc _).alloc _).trans hw1⟩
theorem outOf1 (r : Rc) (b : Nat) (w : World) (B : Blk w b r.cs 81) :
  Calls Tryz.prog 209 #[.pointer (some ⟨b, 0, none⟩)] w fun e w' => e = .returned (.bool (out 1 9 [r.txn])) ∧ Ext w w' := by
 have c := B.cell
 go_enter Tryz.func209, Tryz.ntmps209
 go_wp2_with fail
 refine (outside_n 1 1 9 _ 0 1 [r.txn] _ rfl (by decide) (cells1 (by simp [go_sem]))).mono ?_
 rintro e w1 ⟨rfl, rfl⟩
 go_wp2
 go_ret
 exact ⟨rfl, (Ext.refl _).alloc _⟩
theorem outOf1_ans (r : Rc) (b : Nat) (w : World) (B : Blk w b r.cs 81) : Ans 209 #[.pointer (some ⟨b, 0, none⟩)] w (out 1 9 [r.txn]) :=
 ⟨fun w => callFunc_enter _ w Tryz.func209 (by kernel_rfl) (by kernel_rfl), fun w' h => outOf1 r b w' (B.ext h)⟩
theorem outOf2 (n : Int) (r : Rc) (bn b : Nat) (w : World) (h1 : 1 ≤ n) (h2 : n ≤ 60) (N : Blk w bn #[.int .i64 n] 3) (B : Blk w b r.cs 81) :
  Calls Tryz.prog 210 #[.pointer (some ⟨bn, 0, none⟩), .pointer (some ⟨b, 0, none⟩)] w fun e w' => e = .returned (.bool (out 0 (n - 1) [r.prev])) ∧ Ext w w' := by
 have c := B.cell
 have c2 := N.cell
 go_enter Tryz.func210, Tryz.ntmps210
 go_wp2_with fail
 refine (outside_n 1 0 (n - 1) _ 0 1 [r.prev] _ rfl (by decide) (cells1 (by simp [go_sem]))).mono ?_
 rintro e w1 ⟨rfl, rfl⟩
 go_wp2
 go_ret
 exact ⟨rfl, (Ext.refl _).alloc _⟩
theorem outOf2_ans (n : Int) (r : Rc) (bn b : Nat) (w : World) (h1 : 1 ≤ n) (h2 : n ≤ 60) (N : Blk w bn #[.int .i64 n] 3) (B : Blk w b r.cs 81) : Ans 210 #[.pointer (some ⟨bn, 0, none⟩), .pointer (some ⟨b, 0, none⟩)] w (out 0 (n - 1) [r.prev]) :=
 ⟨fun w => callFunc_enter _ w Tryz.func210 (by kernel_rfl) (by kernel_rfl), fun w' h => outOf2 n r bn b w' h1 h2 (N.ext h) (B.ext h)⟩
theorem outOf3 (r : Rc) (b : Nat) (w : World) (B : Blk w b r.cs 81) :
  Calls Tryz.prog 211 #[.pointer (some ⟨b, 0, none⟩)] w fun e w' => e = .returned (.bool (turns r && cellOut r)) ∧ Ext w w' := by
 have c := B.cell
 go_enter Tryz.func211, Tryz.ntmps211
 go_wp2_with fail
 refine (turns_any r _).mono ?_
 rintro e w1 ⟨rfl, hw1⟩
 have B1 := B.ext hw1
 clear c B
 have c := B1.cell
 cases ht : turns r
 ·have HT := (show Hid _ from ht)
  clear ht
  go_wp2_with fail
  go_ret
  exact ⟨by rw [HT.out]; rfl, hw1⟩
 ·have HT := (show Hid _ from ht)
  clear ht
  go_wp2_with fail
  refine (cellOut_any r _).mono ?_
  rintro e w2 ⟨rfl, hw2⟩
  go_wp2_with fail
  go_ret
  exact ⟨by rw [HT.out]; rfl, hw1.trans hw2⟩
theorem outOf3_ans (r : Rc) (b : Nat) (w : World) (B : Blk w b r.cs 81) : Ans 211 #[.pointer (some ⟨b, 0, none⟩)] w (turns r && cellOut r) :=
 ⟨fun w => callFunc_enter _ w Tryz.func211 (by kernel_rfl) (by kernel_rfl), fun w' h => outOf3 r b w' (B.ext h)⟩
theorem outOf4 (n : Int) (r : Rc) (bn b : Nat) (w : World) (h1 : 1 ≤ n) (h2 : n ≤ 60) (N : Blk w bn #[.int .i64 n] 3) (B : Blk w b r.cs 81) :
  Calls Tryz.prog 213 #[.pointer (some ⟨b, 0, none⟩), .pointer (some ⟨bn, 0, none⟩)] w fun e w' => e = .returned (.bool (r.kind == 3 && out 0 (n - 1) [r.next])) ∧ Ext w w' := by
 have c := B.cell
 have c2 := N.cell
 cases hk : (r.kind == 3)
 ·go_enter Tryz.func213, Tryz.ntmps213
  go_wp2_with fail
  go_ret
  exact ⟨rfl, Ext.refl _⟩
 ·go_enter Tryz.func213, Tryz.ntmps213
  go_wp2_with fail
  refine (outside_n 1 0 (n - 1) _ 0 1 [r.next] _ rfl (by decide) (cells1 (by simp [go_sem]))).mono ?_
  rintro e w1 ⟨rfl, rfl⟩
  go_wp2
  go_ret
  exact ⟨rfl, (Ext.refl _).alloc _⟩
theorem outOf4_ans (n : Int) (r : Rc) (bn b : Nat) (w : World) (h1 : 1 ≤ n) (h2 : n ≤ 60) (N : Blk w bn #[.int .i64 n] 3) (B : Blk w b r.cs 81) : Ans 213 #[.pointer (some ⟨b, 0, none⟩), .pointer (some ⟨bn, 0, none⟩)] w (r.kind == 3 && out 0 (n - 1) [r.next]) :=
 ⟨fun w => callFunc_enter _ w Tryz.func213 (by kernel_rfl) (by kernel_rfl), fun w' h => outOf4 n r bn b w' h1 h2 (N.ext h) (B.ext h)⟩
theorem outOf_any (n : Int) (r : Rc) (w : World) (h1 : 1 ≤ n) (h2 : n ≤ 60) :
  Calls Tryz.prog 191 #[.int .i64 n, r.val] w fun e w' => e = .returned (.bool (outOf n r)) ∧ Ext w w' := by
 go_enter Tryz.func191, Tryz.ntmps191
 go_wp2_with fail
 refine (any4 209 210 211 213 #[.pointer (some ⟨w.heap.size + 1, 0, none⟩)] #[.pointer (some ⟨w.heap.size, 0, none⟩), .pointer (some ⟨w.heap.size + 1, 0, none⟩)] #[.pointer (some ⟨w.heap.size + 1, 0, none⟩)] #[.pointer (some ⟨w.heap.size + 1, 0, none⟩), .pointer (some ⟨w.heap.size, 0, none⟩)] _ _ _ _ (by simp [go_sem]) (by simp [go_sem]) (by simp [go_sem]) (by simp [go_sem])
  (outOf1_ans r _ _ ((Blk.new _ _ _ _ (by simp)).alloc _)) (fun _ => outOf2_ans n r _ _ _ h1 h2 (((Blk.new _ _ _ _ rfl).alloc _).alloc _) ((Blk.new _ _ _ _ (by simp)).alloc _)) (fun _ _ => outOf3_ans r _ _ ((Blk.new _ _ _ _ (by simp)).alloc _)) (fun _ _ _ => outOf4_ans n r _ _ _ h1 h2 (((Blk.new _ _ _ _ rfl).alloc _).alloc _) ((Blk.new _ _ _ _ (by simp)).alloc _))).mono ?_
 rintro e w1 ⟨rfl, hw1⟩
 go_wp2
 go_ret
 exact ⟨rfl, ((((Ext.refl _).alloc _).alloc _).alloc _).trans hw1⟩
theorem tooMuch1 (r : Rc) (b : Nat) (w : World) (B : Blk w b r.cs 81) :
  Calls Tryz.prog 214 #[.pointer (some ⟨b, 0, none⟩)] w fun e w' => e = .returned (.bool (!turns r && out 0 0 [r.page, r.cell, r.old, r.new])) ∧ Ext w w' := by
 have c := B.cell
 go_enter Tryz.func214, Tryz.ntmps214
 go_wp2_with fail
 refine (turns_any r _).mono ?_
 rintro e w1 ⟨rfl, hw1⟩
 have B1 := B.ext hw1
 clear c B
 have c := B1.cell
 cases ht : turns r
 ·have HT := (show Hid _ from ht)
  clear ht
  go_wp2_with fail
  refine (outside_n 4 0 0 _ 0 4 [r.page, r.cell, r.old, r.new] _ rfl (by decide) (cells4 (by simp [go_sem]) (by simp [go_sem]) (by simp [go_sem]) (by simp [go_sem]))).mono ?_
  rintro e w2 ⟨rfl, rfl⟩
  go_wp2_with fail
  go_ret
  exact ⟨by rw [HT.out]; rfl, hw1.alloc _⟩
 ·have HT := (show Hid _ from ht)
  clear ht
  go_wp2_with fail
  go_ret
  exact ⟨by rw [HT.out]; rfl, hw1⟩
theorem tooMuch1_ans (r : Rc) (b : Nat) (w : World) (B : Blk w b r.cs 81) : Ans 214 #[.pointer (some ⟨b, 0, none⟩)] w (!turns r && out 0 0 [r.page, r.cell, r.old, r.new]) :=
 ⟨fun w => callFunc_enter _ w Tryz.func214 (by kernel_rfl) (by kernel_rfl), fun w' h => tooMuch1 r b w' (B.ext h)⟩
theorem tooMuch2 (r : Rc) (b : Nat) (w : World) (B : Blk w b r.cs 81) :
  Calls Tryz.prog 215 #[.pointer (some ⟨b, 0, none⟩)] w fun e w' => e = .returned (.bool (r.kind != 3 && r.next != 0)) ∧ Ext w w' := by
 have c := B.cell
 cases hk : (r.kind != 3)
 all_goals
  go_enter Tryz.func215, Tryz.ntmps215
  go_wp2_with fail
  go_ret
  exact ⟨rfl, Ext.refl _⟩
theorem tooMuch2_ans (r : Rc) (b : Nat) (w : World) (B : Blk w b r.cs 81) : Ans 215 #[.pointer (some ⟨b, 0, none⟩)] w (r.kind != 3 && r.next != 0) :=
 ⟨fun w => callFunc_enter _ w Tryz.func215 (by kernel_rfl) (by kernel_rfl), fun w' h => tooMuch2 r b w' (B.ext h)⟩
theorem tooMuch_any (r : Rc) (w : World) :
  Calls Tryz.prog 192 #[r.val] w fun e w' => e = .returned (.bool (tooMuch r)) ∧ Ext w w' := by
 go_enter Tryz.func192, Tryz.ntmps192
 go_wp2_with fail
 refine (any2 214 215 #[.pointer (some ⟨w.heap.size, 0, none⟩)] #[.pointer (some ⟨w.heap.size, 0, none⟩)] _ _ (by simp [go_sem]) (by simp [go_sem])
  (tooMuch1_ans r _ _ ((Blk.new _ _ _ _ rfl).alloc _)) (fun _ => tooMuch2_ans r _ _ ((Blk.new _ _ _ _ rfl).alloc _))).mono ?_
 rintro e w1 ⟨rfl, hw1⟩
 go_wp2
 go_ret
 exact ⟨rfl, (((Ext.refl _).alloc _).alloc _).trans hw1⟩
theorem recErr_1 {n : Int} {r : Rc} (h : out 1 60 [n] = true) : recErr n r = 3 := by simp [recErr, h]
theorem recErr_2 {n : Int} {r : Rc} (h : out 1 60 [n] = false) (h2 : out 1 4 [r.kind] = true) : recErr n r = 4 := by simp [recErr, h, h2]
theorem recErr_3 {n : Int} {r : Rc} (h : out 1 60 [n] = false) (h2 : out 1 4 [r.kind] = false) (h3 : outOf n r = true) : recErr n r = 3 := by simp [recErr, h, h2, h3]
theorem recErr_4 {n : Int} {r : Rc} (h : out 1 60 [n] = false) (h2 : out 1 4 [r.kind] = false) (h3 : outOf n r = false) (h4 : tooMuch r = true) : recErr n r = 1 := by simp [recErr, h, h2, h3, h4]
theorem recErr_5 {n : Int} {r : Rc} (h : out 1 60 [n] = false) (h2 : out 1 4 [r.kind] = false) (h3 : outOf n r = false) (h4 : tooMuch r = false) : recErr n r = 0 := by simp [recErr, h, h2, h3, h4]
theorem recCheck_any (n : Int) (r : Rc) (w : World) :
  Calls Tryz.prog 173 #[.int .i64 n, r.val] w fun e w' => e = .returned (.int .i64 (recErr n r)) ∧ Ext w w' := by
 go_enter Tryz.func173, Tryz.ntmps173
 go_wp2_with fail
 refine (outside_n 1 1 60 _ 0 1 [n] _ rfl (by decide) (cells1 (by simp [go_sem]))).mono ?_
 rintro e w1 ⟨rfl, rfl⟩
 cases h1 : out 1 60 [n]
 ·have H1 := (show Hid _ from h1)
  clear h1
  obtain ⟨n1, n2⟩ := out1_false H1.out
  go_wp2_with fail
  refine (outside_n 1 1 4 _ 0 1 [r.kind] _ rfl (by decide) (cells1 (by simp [go_sem]))).mono ?_
  rintro e w2 ⟨rfl, rfl⟩
  cases h2 : out 1 4 [r.kind]
  ·have H2 := (show Hid _ from h2)
   clear h2
   go_wp2_with fail
   refine (outOf_any n r _ n1 n2).mono ?_
   rintro e w3 ⟨rfl, hw3⟩
   have B3 := (((Blk.new w w.heap.size r.cs 81 rfl).alloc _).alloc _).ext hw3
   have hE3 : Ext w w3 := ((((Ext.refl _).alloc _).alloc _).alloc _).trans hw3
   clear hw3
   have c := B3.cell
   cases h3 : outOf n r
   ·have H3 := (show Hid _ from h3)
    clear h3
    go_wp2_with fail
    refine (tooMuch_any r _).mono ?_
    rintro e w4 ⟨rfl, hw4⟩
    have hE4 := hE3.trans hw4
    cases h4 : tooMuch r
    ·have HR := (show Hid _ from recErr_5 H1.out H2.out H3.out h4)
     clear h4
     go_wp2_with fail
     go_ret
     exact ⟨by rw [HR.out]; rfl, hE4⟩
    ·have HR := (show Hid _ from recErr_4 H1.out H2.out H3.out h4)
     clear h4
     go_wp2_with fail
     go_ret
     exact ⟨by rw [HR.out]; rfl, hE4⟩
   ·have HR := (show Hid _ from recErr_3 H1.out H2.out h3)
    clear h3
    go_wp2_with fail
    go_ret
    exact ⟨by rw [HR.out]; rfl, hE3⟩
  ·have HR := (show Hid _ from recErr_2 H1.out h2)
   clear h2
   go_wp2_with fail
   go_ret
   exact ⟨by rw [HR.out]; rfl, (((Ext.refl _).alloc _).alloc _).alloc _⟩
 ·have HR := (show Hid _ from recErr_1 (r := r) h1)
  clear h1
  go_wp2_with fail
  go_ret
  exact ⟨by rw [HR.out]; rfl, ((Ext.refl _).alloc _).alloc _⟩
end Go.Proofs.YtibfgbmhmdggmaaGreatDoor.B
