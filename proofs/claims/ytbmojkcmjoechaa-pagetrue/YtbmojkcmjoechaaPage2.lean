/- The contracts of the reference's SetOf, of page.Same, and of what must be of pages in any case. -/
import Derived.Test.YtbmojkcmjoechaaPage
import Derived.Test.YtbmojkcmjoechaaEq
namespace Go.Proofs.Ytbmojkcmjoechaa.B
open Go.ChangeShapes Go.WideShapes Go.ChangeAt Go.RowKit

theorem setBad_wi (cell val n : Int) : setBad cell val n = (!wi cell 0 2 || (!wi val 0 99 || !wi n 1 60)) := by
  simp [setBad, out_one]

set_option maxHeartbeats 400000 in
theorem setOf_any (p : Pg) (cell val n : Int) (w : World) :
    Calls Try.prog 10 #[p.val, .int .i64 cell, .int .i64 val, .int .i64 n] w fun e w' => e = .returned (.tuple #[(setOf p cell val n).1.val, .int .i64 (setOf p cell val n).2]) ∧ Ext w w' := by
  rcases pgErr_cases p with hp | hp
  all_goals
    have HP := (show Hid _ from hp)
    clear hp
    go_enter Try.func10, Try.ntmps10
    go_wp2_with fail
    refine (pageError_any p _).mono ?_
    rintro e w1 ⟨rfl, hw1⟩
    rw [HP.out]
    have B0 := Blk.ext (k := w.heap.size) (by repeat (first | (apply Blk.new; simp; done) | apply Blk.alloc)) hw1
    have B4 := Blk.ext (k := w.heap.size + 1) (by repeat (first | (apply Blk.new; simp; done) | apply Blk.alloc)) hw1
    have hE : Ext w w1 := Ext.trans (by repeat (first | exact Ext.refl _ | apply Ext.alloc)) hw1
    clear hw1
    have c0 := B0.cell
    have c4 := B4.cell
    have f0 := B0.fr
    have f4 := B4.fr
    clear B0 B4
  · have HW := (show Hid _ from setBad_wi cell val n)
    cases h1 : wi cell 0 2
    · have H1 := (show Hid _ from h1); clear h1
      have HG := (show Hid _ from setOf_bad2 HP.out (by rw [HW.out, H1.out]; rfl))
      go_wp2_with (go_at_call 30; refine (within_any _ _ _ _).mono ?_; rintro e w' ⟨rfl, rfl⟩; rw [H1.out])
      refine bodyPost_ret (v := .tuple #[.agg #[.int .i64 0, .int .i64 0, .int .i64 0, .int .i64 0], .int .i64 3]) (by simp [results, Try.results10, go_sem, c4]) rfl ⟨by rw [HG.out], ?_⟩
      exact (((hE.setCell (by simp) _).setCell (by simp) _).setCell (by simp) _).setCell (by simp) _
    · have H1 := (show Hid _ from h1); clear h1
      cases h2 : wi val 0 99
      · have H2 := (show Hid _ from h2); clear h2
        have HG := (show Hid _ from setOf_bad2 HP.out (by rw [HW.out, H1.out, H2.out]; rfl))
        go_wp2_with (go_at_call 30; refine (within_any _ _ _ _).mono ?_; rintro e w' ⟨rfl, rfl⟩; first | rw [H1.out] | rw [H2.out])
        refine bodyPost_ret (v := .tuple #[.agg #[.int .i64 0, .int .i64 0, .int .i64 0, .int .i64 0], .int .i64 3]) (by simp [results, Try.results10, go_sem, c4]) rfl ⟨by rw [HG.out], ?_⟩
        exact (((hE.setCell (by simp) _).setCell (by simp) _).setCell (by simp) _).setCell (by simp) _
      · have H2 := (show Hid _ from h2); clear h2
        cases h3 : wi n 1 60
        · have H3 := (show Hid _ from h3); clear h3
          have HG := (show Hid _ from setOf_bad2 HP.out (by rw [HW.out, H1.out, H2.out, H3.out]; rfl))
          go_wp2_with (go_at_call 30; refine (within_any _ _ _ _).mono ?_; rintro e w' ⟨rfl, rfl⟩; first | rw [H1.out] | rw [H2.out] | rw [H3.out])
          refine bodyPost_ret (v := .tuple #[.agg #[.int .i64 0, .int .i64 0, .int .i64 0, .int .i64 0], .int .i64 3]) (by simp [results, Try.results10, go_sem, c4]) rfl ⟨by rw [HG.out], ?_⟩
          exact (((hE.setCell (by simp) _).setCell (by simp) _).setCell (by simp) _).setCell (by simp) _
        · have H3 := (show Hid _ from h3); clear h3
          have HB : Hid (setBad cell val n = false) := by rw [Hid, HW.out, H1.out, H2.out, H3.out]; rfl
          have HG := (show Hid _ from setOf_good HP.out HB.out)
          rcases setBad_cell HB.out with h | h | h
          · subst h
            go_wp2_with (go_at_call 30; refine (within_any _ _ _ _).mono ?_; rintro e w' ⟨rfl, rfl⟩; first | rw [H1.out] | rw [H2.out] | rw [H3.out])
            refine bodyPost_ret (v := .tuple #[.agg #[.int .i64 val, .int .i64 p.c1, .int .i64 p.c2, .int .i64 n], .int .i64 0]) (by simp [results, Try.results10, go_sem, c4]) rfl ⟨by rw [HG.out]; rfl, ?_⟩
            exact (((((hE.setCell (Nat.le_refl _) _).setCell (Nat.le_refl _) _).setCell (by simp) _).setCell (by simp) _).setCell (by simp) _).setCell (by simp) _
          · subst h
            go_wp2_with (go_at_call 30; refine (within_any _ _ _ _).mono ?_; rintro e w' ⟨rfl, rfl⟩; first | rw [H1.out] | rw [H2.out] | rw [H3.out])
            refine bodyPost_ret (v := .tuple #[.agg #[.int .i64 p.c0, .int .i64 val, .int .i64 p.c2, .int .i64 n], .int .i64 0]) (by simp [results, Try.results10, go_sem, c4]) rfl ⟨by rw [HG.out]; rfl, ?_⟩
            exact (((((hE.setCell (Nat.le_refl _) _).setCell (Nat.le_refl _) _).setCell (by simp) _).setCell (by simp) _).setCell (by simp) _).setCell (by simp) _
          · subst h
            go_wp2_with (go_at_call 30; refine (within_any _ _ _ _).mono ?_; rintro e w' ⟨rfl, rfl⟩; first | rw [H1.out] | rw [H2.out] | rw [H3.out])
            refine bodyPost_ret (v := .tuple #[.agg #[.int .i64 p.c0, .int .i64 p.c1, .int .i64 val, .int .i64 n], .int .i64 0]) (by simp [results, Try.results10, go_sem, c4]) rfl ⟨by rw [HG.out]; rfl, ?_⟩
            exact (((((hE.setCell (Nat.le_refl _) _).setCell (Nat.le_refl _) _).setCell (by simp) _).setCell (by simp) _).setCell (by simp) _).setCell (by simp) _
  · have HG := (show Hid _ from setOf_bad1 (cell := cell) (val := val) (n := n) HP.out)
    go_wp2_with fail
    refine bodyPost_ret (v := .tuple #[.agg #[.int .i64 0, .int .i64 0, .int .i64 0, .int .i64 0], .int .i64 3]) (by simp [results, Try.results10, go_sem, c4]) rfl ⟨by rw [HG.out], ?_⟩
    exact (((hE.setCell (by simp) _).setCell (by simp) _).setCell (by simp) _).setCell (by simp) _

/-- Are the cells the same? -/
def sameCells (p q : Pg) : Bool := p.c0 == q.c0 && (p.c1 == q.c1 && p.c2 == q.c2)

set_option maxHeartbeats 400000 in
theorem same_any (p q : Pg) (w : World) :
    Calls Try.prog 14 #[p.val, q.val] w fun e w' => e = .returned (.bool (sameCells p q)) ∧ Ext w w' := by
  have e := eql_arr p.c0 p.c1 p.c2 q.c0 q.c1 q.c2
  go_enter Try.func14, Try.ntmps14
  go_wp2_with fail
  go_ret
  exact ⟨rfl, ((Ext.refl _).alloc _).alloc _⟩

set_option maxHeartbeats 800000 in
theorem pageBegun_any (w : World) :
    Calls Try.prog 11 #[] w fun e w' => e = .returned (.bool true) ∧ Ext w w' := by
  go_enter Try.func11, Try.ntmps11
  go_wp2_with fail
  refine (set_any ⟨0, 0, 0, 4⟩ 1 7 9 _).mono ?_
  rintro e w1 ⟨rfl, hw1⟩
  rw [show setOf ⟨0, 0, 0, 4⟩ 1 7 9 = (⟨0, 7, 0, 9⟩, 0) from rfl]
  go_wp2_with fail
  refine (set_any ⟨0, 0, 0, 0⟩ 3 7 9 _).mono ?_
  rintro e w2 ⟨rfl, hw2⟩
  rw [show setOf ⟨0, 0, 0, 0⟩ 3 7 9 = (⟨0, 0, 0, 0⟩, 3) from rfl]
  have B2 := Blk.ext (k := w1.heap.size) (by repeat (first | (apply Blk.new; simp; done) | apply Blk.alloc)) hw2
  have hE2 : Ext w w2 := (hw1.alloc _).trans hw2
  clear hw1 hw2
  go_wp2_with fail
  refine (set_any ⟨0, 0, 0, 0⟩ 1 100 9 _).mono ?_
  rintro e w3 ⟨rfl, hw3⟩
  rw [show setOf ⟨0, 0, 0, 0⟩ 1 100 9 = (⟨0, 0, 0, 0⟩, 3) from rfl]
  have B3 := (B2.alloc _).ext hw3
  have hE3 : Ext w w3 := (hE2.alloc _).trans hw3
  clear hw3 B2 hE2
  go_wp2_with fail
  refine (set_any ⟨0, 0, 0, 61⟩ 1 7 9 _).mono ?_
  rintro e w4 ⟨rfl, hw4⟩
  rw [show setOf ⟨0, 0, 0, 61⟩ 1 7 9 = (⟨0, 0, 0, 0⟩, 3) from rfl]
  have B4 := (B3.alloc _).ext hw4
  have hE4 : Ext w w4 := (hE3.alloc _).trans hw4
  clear hw4 B3 hE3
  have c4 := B4.cell
  have l4 := B4.lt
  have eq1 := eql_page ⟨0, 7, 0, 9⟩ ⟨0, 7, 0, 9⟩
  rw [show eqPg ⟨0, 7, 0, 9⟩ ⟨0, 7, 0, 9⟩ = true from rfl] at eq1
  go_wp2_with fail
  refine (check_any ⟨0, 7, 0, 9⟩ _).mono ?_
  rintro e w5 ⟨rfl, hw5⟩
  rw [show pgErr ⟨0, 7, 0, 9⟩ = 0 from rfl]
  have B5 := (B4.alloc _).ext hw5
  have hE5 : Ext w w5 := (hE4.alloc _).trans hw5
  clear hw5 B4 hE4 c4 l4 eq1
  have c5 := B5.cell
  go_wp2_with fail
  refine (same_any ⟨0, 7, 0, 9⟩ ⟨0, 7, 0, 0⟩ _).mono ?_
  rintro e w6 ⟨rfl, hw6⟩
  rw [show sameCells ⟨0, 7, 0, 9⟩ ⟨0, 7, 0, 0⟩ = true from rfl]
  have B6 := B5.ext hw6
  have hE6 : Ext w w6 := hE5.trans hw6
  clear hw6 B5 hE5 c5
  have c6 := B6.cell
  go_wp2_with fail
  refine (same_any ⟨0, 7, 0, 9⟩ ⟨0, 0, 0, 0⟩ _).mono ?_
  rintro e w7 ⟨rfl, hw7⟩
  rw [show sameCells ⟨0, 7, 0, 9⟩ ⟨0, 0, 0, 0⟩ = false from rfl]
  have hE7 : Ext w w7 := hE6.trans hw7
  clear hw7 B6 hE6 c6
  go_wp2_with fail
  go_ret
  exact ⟨rfl, hE7⟩
end Go.Proofs.Ytbmojkcmjoechaa.B
