/- What == says of the arrays and structs of this program: just what it says of their numbers. -/
import Derived.Test.YtgojonhjhdbpkaaBase
import Derived.ChangeKeysEq
namespace Go.Proofs.Ytgojonhjhdbpkaa.B
set_option maxRecDepth 100000
open Go.ChangeShapes Go.WideShapes Go.ChangeAt Go.RowKit

theorem cellsInt : Try.prog.cellsOf 3 = 1 := by kernel_rfl
theorem cellsArr : Try.prog.cellsOf 27 = 3 := by kernel_rfl
theorem cellsPage : Try.prog.cellsOf 29 = 4 := by kernel_rfl
theorem eq_arr3 (d : Nat) (w : World) (a0 a1 a2 b0 b1 b2 : Int) :
    (Op.equalIn (d + 2) 27 (.agg #[.int .i64 a0, .int .i64 a1, .int .i64 a2]) (.agg #[.int .i64 b0, .int .i64 b1, .int .i64 b2])).run Try.prog w = .ok (a0 == b0 && (a1 == b1 && a2 == b2)) w := by
  rw [run_equalIn_array (P := Try.prog) w (d + 1) _ _ Try.underlying27 (i := (Try.prog.info? 3).getD default) (by kernel_rfl)]
  simp [Op.eqItems, List.range_succ, go_sem, cellsInt, part, Try.underlying3]
  by_cases h0 : a0 = b0
  · by_cases h1 : a1 = b1
    · by_cases h2 : a2 = b2 <;> simp [h0, h1, h2]
    · simp [h0, h1]
  · simp [h0]
/-- Are two pages the same? -/
def eqPg (p q : Pg) : Bool := (p.c0 == q.c0 && (p.c1 == q.c1 && p.c2 == q.c2)) && p.last == q.last
theorem eqPg_refl (p : Pg) : eqPg p p = true := by simp [eqPg]
theorem eqPg_iff (p q : Pg) : eqPg p q = true ↔ p = q := by
  obtain ⟨a, b, c, d⟩ := p
  obtain ⟨a', b', c', d'⟩ := q
  simp [eqPg, and_assoc]
theorem eq_page (d : Nat) (w : World) (p q : Pg) : (Op.equalIn (d + 3) 29 p.val q.val).run Try.prog w = .ok (eqPg p q) w := by
  rw [run_equalIn_struct (P := Try.prog) w (d + 2) _ _ _ (by kernel_rfl) (by kernel_rfl)]
  simp [go_sem, part, Op.eqFields, Program.fieldsOf, Try.underlying29, eq_arr3]
  unfold eqPg
  by_cases h0 : p.c0 = q.c0
  · by_cases h1 : p.c1 = q.c1
    · by_cases h2 : p.c2 = q.c2
      · by_cases h3 : p.last = q.last <;> simp [h0, h1, h2, h3]
      · simp [h0, h1, h2]
    · simp [h0, h1]
  · simp [h0]
/-- Are two records the same? -/
def eqRc (r s : Rc) : Bool := r.kind == s.kind && (r.txn == s.txn && (r.prev == s.prev && (r.page == s.page && (r.cell == s.cell && (r.old == s.old && (r.new == s.new && r.next == s.next))))))
theorem eqRc_iff (r s : Rc) : eqRc r s = true ↔ r = s := by
  obtain ⟨a, b, c, d, e, f, g, h⟩ := r
  obtain ⟨a', b', c', d', e', f', g', h'⟩ := s
  simp [eqRc]
theorem eq_rec (d : Nat) (w : World) (r s : Rc) : (Op.equalIn (d + 2) 39 r.val s.val).run Try.prog w = .ok (eqRc r s) w := by
  rw [run_equalIn_struct (P := Try.prog) w (d + 1) _ _ _ (by kernel_rfl) (by kernel_rfl)]
  simp [go_sem, part, Op.eqFields, Program.fieldsOf, Try.underlying39]
  unfold eqRc
  by_cases h0 : r.kind = s.kind
  · rw [if_pos h0, beq_iff_eq.2 h0, Bool.true_and]
    by_cases h1 : r.txn = s.txn
    · rw [if_pos h1, beq_iff_eq.2 h1, Bool.true_and]
      by_cases h2 : r.prev = s.prev
      · rw [if_pos h2, beq_iff_eq.2 h2, Bool.true_and]
        by_cases h3 : r.page = s.page
        · rw [if_pos h3, beq_iff_eq.2 h3, Bool.true_and]
          by_cases h4 : r.cell = s.cell
          · rw [if_pos h4, beq_iff_eq.2 h4, Bool.true_and]
            by_cases h5 : r.old = s.old
            · rw [if_pos h5, beq_iff_eq.2 h5, Bool.true_and]
              by_cases h6 : r.new = s.new
              · rw [if_pos h6, beq_iff_eq.2 h6, Bool.true_and]
                by_cases h7 : r.next = s.next
                · rw [if_pos h7, beq_iff_eq.2 h7]
                · rw [if_neg h7, beq_eq_false_iff_ne.2 h7]
              · rw [if_neg h6, beq_eq_false_iff_ne.2 h6, Bool.false_and]
            · rw [if_neg h5, beq_eq_false_iff_ne.2 h5, Bool.false_and]
          · rw [if_neg h4, beq_eq_false_iff_ne.2 h4, Bool.false_and]
        · rw [if_neg h3, beq_eq_false_iff_ne.2 h3, Bool.false_and]
      · rw [if_neg h2, beq_eq_false_iff_ne.2 h2, Bool.false_and]
    · rw [if_neg h1, beq_eq_false_iff_ne.2 h1, Bool.false_and]
  · rw [if_neg h0, beq_eq_false_iff_ne.2 h0, Bool.false_and]
/-- Three pages, as they lie in one array. -/
abbrev val3 (p q r : Pg) : Value := .agg #[.int .i64 p.c0, .int .i64 p.c1, .int .i64 p.c2, .int .i64 p.last, .int .i64 q.c0, .int .i64 q.c1, .int .i64 q.c2, .int .i64 q.last, .int .i64 r.c0, .int .i64 r.c1, .int .i64 r.c2, .int .i64 r.last]
theorem eq_pages (d : Nat) (w : World) (p q r p' q' r' : Pg) : (Op.equalIn (d + 4) 30 (val3 p q r) (val3 p' q' r')).run Try.prog w = .ok (eqPg p p' && (eqPg q q' && eqPg r r')) w := by
  rw [run_equalIn_array (P := Try.prog) w (d + 3) _ _ Try.underlying30 (i := (Try.prog.info? 29).getD default) (by kernel_rfl)]
  have e := fun w => eq_page d w p p'
  have f := fun w => eq_page d w q q'
  have g := fun w => eq_page d w r r'
  simp [Op.eqItems, List.range_succ, go_sem, cellsPage, part, ↓e, ↓f, ↓g]
  cases eqPg p p' <;> cases eqPg q q' <;> cases eqPg r r' <;> rfl
/-- The same, as the walk asks it. -/
theorem eql_arr (a0 a1 a2 b0 b1 b2 : Int) : ∀ w, (Op.equalIn 10000 27 (.agg #[.int .i64 a0, .int .i64 a1, .int .i64 a2]) (.agg #[.int .i64 b0, .int .i64 b1, .int .i64 b2])).run Try.prog w = .ok (a0 == b0 && (a1 == b1 && a2 == b2)) w :=
  fun w => eq_arr3 9998 w a0 a1 a2 b0 b1 b2
theorem eql_page (p q : Pg) : ∀ w, (binOp .eql 29 p.val q.val).run Try.prog w = .ok (.bool (eqPg p q)) w := by
  intro w; rw [run_eql_struct]; rw [show (10000 : Nat) = 9997 + 3 from rfl, eq_page 9997 w p q]; rfl
theorem eql_rec (p q : Rc) : ∀ w, (binOp .eql 39 p.val q.val).run Try.prog w = .ok (.bool (eqRc p q)) w := by
  intro w; rw [run_eql_struct]; rw [show (10000 : Nat) = 9998 + 2 from rfl, eq_rec 9998 w p q]; rfl
theorem neq_rec (p q : Rc) : ∀ w, (binOp .neq 39 p.val q.val).run Try.prog w = .ok (.bool (!eqRc p q)) w := by
  intro w; rw [run_neq_struct]; rw [show (10000 : Nat) = 9998 + 2 from rfl, eq_rec 9998 w p q]; rfl
theorem eql_pages (p q r p' q' r' : Pg) : ∀ w, (binOp .eql 30 (val3 p q r) (val3 p' q' r')).run Try.prog w = .ok (.bool (eqPg p p' && (eqPg q q' && eqPg r r'))) w := by
  intro w; rw [run_eql_struct]; rw [show (10000 : Nat) = 9996 + 4 from rfl, eq_pages 9996 w p q r p' q' r']; rfl
end Go.Proofs.Ytgojonhjhdbpkaa.B
