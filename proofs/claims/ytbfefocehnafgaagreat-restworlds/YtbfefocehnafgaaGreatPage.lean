/- The contracts of package page and of the reference's page functions. -/
import Derived.Test.YtbfefocehnafgaaGreatBaseA
namespace Go.Proofs.YtbfefocehnafgaaGreat.B
set_option maxRecDepth 100000
open Go.ChangeShapes Go.WideShapes Go.ChangeAt Go.RowKit

/-- The document's error of a page. -/
def pgErr (p : Pg) : Int := if out 0 99 [p.c0, p.c1, p.c2] || out 0 60 [p.last] then 3 else 0

set_option maxHeartbeats 400000 in
theorem check1 (p : Pg) (b : Nat) (w : World) (h0 : w.cell? ⟨b, 0, none⟩ = some (.int .i64 p.c0)) (h1 : w.cell? ⟨b, 1, none⟩ = some (.int .i64 p.c1)) (h2 : w.cell? ⟨b, 2, none⟩ = some (.int .i64 p.c2)) :
    Calls Tryz.prog 154 #[.pointer (some ⟨b, 0, none⟩)] w fun e w' => e = .returned (.bool (out 0 99 [p.c0, p.c1, p.c2])) ∧ Ext w w' := by
  go_enter Tryz.func154, Tryz.ntmps154
  go_wp2_with fail
  refine (outside_n 3 0 99 b 0 3 [p.c0, p.c1, p.c2] w rfl (by decide) (cells3 h0 h1 h2)).mono ?_
  rintro e w1 ⟨rfl, rfl⟩
  go_wp2
  go_ret
  exact ⟨rfl, Ext.refl _⟩

set_option maxHeartbeats 400000 in
theorem check2 (p : Pg) (b : Nat) (w : World) (h3 : w.cell? ⟨b, 3, none⟩ = some (.int .i64 p.last)) :
    Calls Tryz.prog 155 #[.pointer (some ⟨b, 0, none⟩)] w fun e w' => e = .returned (.bool (out 0 60 [p.last])) ∧ Ext w w' := by
  go_enter Tryz.func155, Tryz.ntmps155
  go_wp2_with fail
  refine (outside_n 1 0 60 _ 0 1 [p.last] _ rfl (by decide) (cells1 (by simp [go_sem]))).mono ?_
  rintro e w1 ⟨rfl, rfl⟩
  go_wp2
  go_ret
  exact ⟨rfl, (Ext.refl _).alloc _⟩

theorem check1_ans (p : Pg) (b : Nat) (w : World) (h0 : w.cell? ⟨b, 0, none⟩ = some (.int .i64 p.c0)) (h1 : w.cell? ⟨b, 1, none⟩ = some (.int .i64 p.c1)) (h2 : w.cell? ⟨b, 2, none⟩ = some (.int .i64 p.c2)) :
    Ans 154 #[.pointer (some ⟨b, 0, none⟩)] w (out 0 99 [p.c0, p.c1, p.c2]) :=
  ⟨fun w => callFunc_enter _ w Tryz.func154 (by kernel_rfl) (by kernel_rfl), fun w' h => check1 p b w' (h.cell h0) (h.cell h1) (h.cell h2)⟩
theorem check2_ans (p : Pg) (b : Nat) (w : World) (h3 : w.cell? ⟨b, 3, none⟩ = some (.int .i64 p.last)) :
    Ans 155 #[.pointer (some ⟨b, 0, none⟩)] w (out 0 60 [p.last]) :=
  ⟨fun w => callFunc_enter _ w Tryz.func155 (by kernel_rfl) (by kernel_rfl), fun w' h => check2 p b w' (h.cell h3)⟩

theorem pgErr_or (p : Pg) {b : Bool} (h : (out 0 99 [p.c0, p.c1, p.c2] || out 0 60 [p.last]) = b) : pgErr p = if b then 3 else 0 := by
  unfold pgErr; rw [h]

set_option maxHeartbeats 400000 in
theorem check_any (p : Pg) (w : World) :
    Calls Tryz.prog 147 #[p.val] w fun e w' => e = .returned (.int .i64 (pgErr p)) ∧ Ext w w' := by
  go_enter Tryz.func147, Tryz.ntmps147
  go_wp2_with fail
  refine (any2 154 155 #[.pointer (some ⟨w.heap.size, 0, none⟩)] #[.pointer (some ⟨w.heap.size, 0, none⟩)] _ _ (by simp [go_sem]) (by simp [go_sem]) (check1_ans p _ _ (by simp [go_sem]) (by simp [go_sem]) (by simp [go_sem])) (fun _ => check2_ans p _ _ (by simp [go_sem]))).mono ?_
  rintro e w1 ⟨rfl, hw1⟩
  have hE : Ext w w1 := ((Ext.refl _).alloc _).alloc _ |>.trans hw1
  cases hb : (out 0 99 [p.c0, p.c1, p.c2] || out 0 60 [p.last])
  · have HB := (show Hid _ from pgErr_or p hb)
    clear hb
    go_wp2
    go_ret
    exact ⟨by rw [HB.out]; rfl, hE⟩
  · have HB := (show Hid _ from pgErr_or p hb)
    clear hb
    go_wp2
    go_ret
    exact ⟨by rw [HB.out]; rfl, hE⟩

theorem wi_not (n lo hi : Int) : (!wi n lo hi) = (decide (n < lo) || decide (hi < n)) := by
  unfold wi
  by_cases h1 : lo ≤ n <;> by_cases h2 : n ≤ hi <;> simp [h1, h2] <;> omega
theorem out_one (lo hi n : Int) : out lo hi [n] = !wi n lo hi := by
  rw [wi_not]; simp [out]
theorem out_drop_wi (lo hi : Int) (xs : List Int) (k : Nat) (h : k < xs.length) : out lo hi (xs.drop k) = (!wi xs[k] lo hi || out lo hi (xs.drop (k+1))) := by
  rw [out_drop lo hi xs k h, wi_not]
theorem pgErr_yes (p : Pg) (h : out 0 99 [p.c0, p.c1, p.c2] = true) : pgErr p = 3 := by simp [pgErr, h]
theorem pgErr_last (p : Pg) (h : out 0 99 [p.c0, p.c1, p.c2] = false) : pgErr p = if wi p.last 0 60 then 0 else 3 := by
  unfold pgErr; rw [h, out_one]; cases wi p.last 0 60 <;> rfl

/-- The document's answer of Set. -/
def pgSet (p : Pg) (cell val n : Int) : Pg := if cell = 0 then ⟨val, p.c1, p.c2, n⟩ else if cell = 1 then ⟨p.c0, val, p.c2, n⟩ else ⟨p.c0, p.c1, val, n⟩
def setBad (cell val n : Int) : Bool := out 0 2 [cell] || (out 0 99 [val] || out 1 60 [n])
def setOf (p : Pg) (cell val n : Int) : Pg × Int := if pgErr p = 0 then (if setBad cell val n then (⟨0, 0, 0, 0⟩, 3) else (pgSet p cell val n, 0)) else (⟨0, 0, 0, 0⟩, 3)
theorem setOf_bad1 {p : Pg} {cell val n : Int} (h : pgErr p = 3) : setOf p cell val n = (⟨0, 0, 0, 0⟩, 3) := by simp [setOf, h]
theorem setOf_bad2 {p : Pg} {cell val n : Int} (h : pgErr p = 0) (hb : setBad cell val n = true) : setOf p cell val n = (⟨0, 0, 0, 0⟩, 3) := by simp [setOf, h, hb]
theorem setOf_good {p : Pg} {cell val n : Int} (h : pgErr p = 0) (hb : setBad cell val n = false) : setOf p cell val n = (pgSet p cell val n, 0) := by simp [setOf, h, hb]
theorem pgErr_cases (p : Pg) : pgErr p = 0 ∨ pgErr p = 3 := by unfold pgErr; split <;> simp
theorem setBad_cell {cell val n : Int} (hb : setBad cell val n = false) : cell = 0 ∨ cell = 1 ∨ cell = 2 := by
  simp [setBad, out] at hb; omega

set_option maxHeartbeats 400000 in
theorem set1 (x : Int) (b : Nat) (w : World) (h0 : w.cell? ⟨b, 0, none⟩ = some (.int .i64 x)) :
    Calls Tryz.prog 148 #[.pointer (some ⟨b, 0, none⟩)] w fun e w' => e = .returned (.bool (out 0 2 [x])) ∧ Ext w w' := by
  go_enter Tryz.func148, Tryz.ntmps148
  go_wp2_with fail
  refine (outside_n 1 0 2 _ 0 1 [x] _ rfl (by decide) (cells1 (by simp [go_sem]))).mono ?_
  rintro e w1 ⟨rfl, rfl⟩
  go_wp2
  go_ret
  exact ⟨rfl, (Ext.refl _).alloc _⟩
set_option maxHeartbeats 400000 in
theorem set2 (x : Int) (b : Nat) (w : World) (h0 : w.cell? ⟨b, 0, none⟩ = some (.int .i64 x)) :
    Calls Tryz.prog 149 #[.pointer (some ⟨b, 0, none⟩)] w fun e w' => e = .returned (.bool (out 0 99 [x])) ∧ Ext w w' := by
  go_enter Tryz.func149, Tryz.ntmps149
  go_wp2_with fail
  refine (outside_n 1 0 99 _ 0 1 [x] _ rfl (by decide) (cells1 (by simp [go_sem]))).mono ?_
  rintro e w1 ⟨rfl, rfl⟩
  go_wp2
  go_ret
  exact ⟨rfl, (Ext.refl _).alloc _⟩
set_option maxHeartbeats 400000 in
theorem set3 (x : Int) (b : Nat) (w : World) (h0 : w.cell? ⟨b, 0, none⟩ = some (.int .i64 x)) :
    Calls Tryz.prog 150 #[.pointer (some ⟨b, 0, none⟩)] w fun e w' => e = .returned (.bool (out 1 60 [x])) ∧ Ext w w' := by
  go_enter Tryz.func150, Tryz.ntmps150
  go_wp2_with fail
  refine (outside_n 1 1 60 _ 0 1 [x] _ rfl (by decide) (cells1 (by simp [go_sem]))).mono ?_
  rintro e w1 ⟨rfl, rfl⟩
  go_wp2
  go_ret
  exact ⟨rfl, (Ext.refl _).alloc _⟩
theorem set1_ans (x : Int) (b : Nat) (w : World) (h0 : w.cell? ⟨b, 0, none⟩ = some (.int .i64 x)) : Ans 148 #[.pointer (some ⟨b, 0, none⟩)] w (out 0 2 [x]) :=
  ⟨fun w => callFunc_enter _ w Tryz.func148 (by kernel_rfl) (by kernel_rfl), fun w' h => set1 x b w' (h.cell h0)⟩
theorem set2_ans (x : Int) (b : Nat) (w : World) (h0 : w.cell? ⟨b, 0, none⟩ = some (.int .i64 x)) : Ans 149 #[.pointer (some ⟨b, 0, none⟩)] w (out 0 99 [x]) :=
  ⟨fun w => callFunc_enter _ w Tryz.func149 (by kernel_rfl) (by kernel_rfl), fun w' h => set2 x b w' (h.cell h0)⟩
theorem set3_ans (x : Int) (b : Nat) (w : World) (h0 : w.cell? ⟨b, 0, none⟩ = some (.int .i64 x)) : Ans 150 #[.pointer (some ⟨b, 0, none⟩)] w (out 1 60 [x]) :=
  ⟨fun w => callFunc_enter _ w Tryz.func150 (by kernel_rfl) (by kernel_rfl), fun w' h => set3 x b w' (h.cell h0)⟩

set_option maxHeartbeats 400000 in
theorem set_any (p : Pg) (cell val n : Int) (w : World) :
    Calls Tryz.prog 131 #[p.val, .int .i64 cell, .int .i64 val, .int .i64 n] w fun e w' => e = .returned (.tuple #[(setOf p cell val n).1.val, .int .i64 (setOf p cell val n).2]) ∧ Ext w w' := by
  rcases pgErr_cases p with hp | hp
  all_goals
    have HP := (show Hid _ from hp)
    clear hp
    go_enter Tryz.func131, Tryz.ntmps131
    go_wp2_with fail
    refine (check_any p _).mono ?_
    rintro e w1 ⟨rfl, hw1⟩
    rw [HP.out]
    have B0 := Blk.ext (k := w.heap.size) (by repeat (first | (apply Blk.new; simp; done) | apply Blk.alloc)) hw1
    have B1 := Blk.ext (k := w.heap.size + 1) (by repeat (first | (apply Blk.new; simp; done) | apply Blk.alloc)) hw1
    have B2 := Blk.ext (k := w.heap.size + 1 + 1) (by repeat (first | (apply Blk.new; simp; done) | apply Blk.alloc)) hw1
    have B3 := Blk.ext (k := w.heap.size + 1 + 1 + 1) (by repeat (first | (apply Blk.new; simp; done) | apply Blk.alloc)) hw1
    have B4 := Blk.ext (k := w.heap.size + 1 + 1 + 1 + 1) (by repeat (first | (apply Blk.new; simp; done) | apply Blk.alloc)) hw1
    have hE : Ext w w1 := Ext.trans (by repeat (first | exact Ext.refl _ | apply Ext.alloc)) hw1
    clear hw1
    have L0 := B0.lt
    have L4 := B4.lt
  · have c1 := B1.cell
    have c2 := B2.cell
    have c3 := B3.cell
    clear c1 c2 c3
    go_wp2_with fail
    refine (any3 148 149 150 #[.pointer (some ⟨w.heap.size + 1, 0, none⟩)] #[.pointer (some ⟨w.heap.size + 1 + 1, 0, none⟩)] #[.pointer (some ⟨w.heap.size + 1 + 1 + 1, 0, none⟩)] _ _ _ (by simp [go_sem]) (by simp [go_sem]) (by simp [go_sem])
      (set1_ans cell _ _ ((B1.alloc _).cell 0)) (fun _ => set2_ans val _ _ ((B2.alloc _).cell 0)) (fun _ _ => set3_ans n _ _ ((B3.alloc _).cell 0))).mono ?_
    rintro e w2 ⟨rfl, hw2⟩
    have D0 := (B0.alloc _).ext hw2
    have D1 := (B1.alloc _).ext hw2
    have D2 := (B2.alloc _).ext hw2
    have D3 := (B3.alloc _).ext hw2
    have D4 := (B4.alloc _).ext hw2
    have hE2 : Ext w w2 := (hE.alloc _).trans hw2
    clear B0 B1 B2 B3 B4 hE hw2 L0 L4
    have hs : Hid (setBad cell val n = (out 0 2 [cell] || (out 0 99 [val] || out 1 60 [n]))) := rfl
    cases hb : (out 0 2 [cell] || (out 0 99 [val] || out 1 60 [n]))
    · have HB : Hid (setBad cell val n = false) := by rw [Hid, hs.out, hb]
      clear hb hs
      have HG := (show Hid _ from setOf_good HP.out HB.out)
      have hcell := setBad_cell HB.out
      have c0 := D0.cell
      have c1 := D1.cell
      have c2 := D2.cell
      have c3 := D3.cell
      have c4 := D4.cell
      have f0 := D0.fr
      have f4 := D4.fr
      rcases hcell with h | h | h
      · subst h
        go_wp2_with fail
        refine bodyPost_ret (v := .tuple #[.agg #[.int .i64 val, .int .i64 p.c1, .int .i64 p.c2, .int .i64 n], .int .i64 0]) (by simp [results, Tryz.results131, go_sem, c4]) rfl ⟨by rw [HG.out]; rfl, ?_⟩
        exact (((((hE2.setCell (Nat.le_refl _) _).setCell (Nat.le_refl _) _).setCell (by simp; omega) _).setCell (by simp; omega) _).setCell (by simp; omega) _).setCell (by simp; omega) _
      · subst h
        go_wp2_with fail
        refine bodyPost_ret (v := .tuple #[.agg #[.int .i64 p.c0, .int .i64 val, .int .i64 p.c2, .int .i64 n], .int .i64 0]) (by simp [results, Tryz.results131, go_sem, c4]) rfl ⟨by rw [HG.out]; rfl, ?_⟩
        exact (((((hE2.setCell (Nat.le_refl _) _).setCell (Nat.le_refl _) _).setCell (by simp; omega) _).setCell (by simp; omega) _).setCell (by simp; omega) _).setCell (by simp; omega) _
      · subst h
        go_wp2_with fail
        refine bodyPost_ret (v := .tuple #[.agg #[.int .i64 p.c0, .int .i64 p.c1, .int .i64 val, .int .i64 n], .int .i64 0]) (by simp [results, Tryz.results131, go_sem, c4]) rfl ⟨by rw [HG.out]; rfl, ?_⟩
        exact (((((hE2.setCell (Nat.le_refl _) _).setCell (Nat.le_refl _) _).setCell (by simp; omega) _).setCell (by simp; omega) _).setCell (by simp; omega) _).setCell (by simp; omega) _
    · have HB : Hid (setBad cell val n = true) := by rw [Hid, hs.out, hb]
      clear hb hs
      have HG := (show Hid _ from setOf_bad2 HP.out HB.out)
      have c4 := D4.cell
      have f4 := D4.fr
      go_wp2_with fail
      refine bodyPost_ret (v := .tuple #[.agg #[.int .i64 0, .int .i64 0, .int .i64 0, .int .i64 0], .int .i64 3]) (by simp [results, Tryz.results131, go_sem, c4]) rfl ⟨by rw [HG.out], ?_⟩
      exact (((hE2.setCell (by simp; omega) _).setCell (by simp; omega) _).setCell (by simp; omega) _).setCell (by simp; omega) _
  · have HG := (show Hid _ from setOf_bad1 (cell := cell) (val := val) (n := n) HP.out)
    have c4 := B4.cell
    have f4 := B4.fr
    go_wp2_with fail
    refine bodyPost_ret (v := .tuple #[.agg #[.int .i64 0, .int .i64 0, .int .i64 0, .int .i64 0], .int .i64 3]) (by simp [results, Tryz.results131, go_sem, c4]) rfl ⟨by rw [HG.out], ?_⟩
    exact (((hE.setCell (by simp; omega) _).setCell (by simp; omega) _).setCell (by simp; omega) _).setCell (by simp; omega) _
end Go.Proofs.YtbfefocehnafgaaGreat.B
