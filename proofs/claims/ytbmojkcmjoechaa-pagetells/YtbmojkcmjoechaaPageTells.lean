/- PageTells holds: page.Check, Set and Same answer what the reference answers, whatever they are handed. -/
import Derived.Test.YtbmojkcmjoechaaPage2
import Derived.Test.YtbmojkcmjoechaaOpen
import Derived.Deep.RegionHeld3
namespace Go.Proofs.Ytbmojkcmjoechaa.B
open Go.ChangeShapes Go.WideShapes Go.ChangeAt Go.RowKit

set_option maxHeartbeats 1000000 in
theorem pageTells_walk (p q : Pg) (cell val n : Int) (w : World) :
    Calls Try.prog 3 #[p.val, q.val, .int .i64 cell, .int .i64 val, .int .i64 n] w fun e w' => e = .returned (.bool true) ∧ Ext w w' := by
  go_enter Try.func3, Try.ntmps3
  go_wp2_with fail
  refine (set_any p cell val n _).mono ?_
  rintro e w1 ⟨rfl, hw1⟩
  have HT : Hid (∀ w, Calls Try.prog 10 #[p.val, .int .i64 cell, .int .i64 val, .int .i64 n] w fun e w' => e = .returned (.tuple #[(setOf p cell val n).1.val, .int .i64 (setOf p cell val n).2]) ∧ Ext w w') := setOf_any p cell val n
  generalize (setOf p cell val n).1 = x at HT ⊢
  generalize (setOf p cell val n).2 = ex at HT ⊢
  have B0 := Blk.ext (k := w.heap.size) (by repeat (first | (apply Blk.new; simp; done) | apply Blk.alloc)) hw1
  have B1 := Blk.ext (k := w.heap.size + 1) (by repeat (first | (apply Blk.new; simp; done) | apply Blk.alloc)) hw1
  have hE : Ext w w1 := Ext.trans (by repeat (first | exact Ext.refl _ | apply Ext.alloc)) hw1
  clear hw1
  have c0 := B0.cell
  have l0 := B0.lt
  have l1 := B1.lt
  go_wp2_with fail
  refine (HT.out _).mono ?_
  rintro e w2 ⟨rfl, hw2⟩
  have B0' := (B0.alloc _).ext hw2
  have B1' := (B1.alloc _).ext hw2
  have B2 := (Blk.new w1 w1.heap.size _ _ rfl).ext hw2
  have hE2 : Ext w w2 := (hE.alloc _).trans hw2
  clear B0 B1 hE hw2 HT c0 l0 l1
  go_wp2_with fail
  have C0 := B0'.alloc (.cells #[.int .i64 x.c0, .int .i64 x.c1, .int .i64 x.c2, .int .i64 x.last] 24)
  have C1 := B1'.alloc (.cells #[.int .i64 x.c0, .int .i64 x.c1, .int .i64 x.c2, .int .i64 x.last] 24)
  have C2 := B2.alloc (.cells #[.int .i64 x.c0, .int .i64 x.c1, .int .i64 x.c2, .int .i64 x.last] 24)
  have C3 := Blk.new w2 w2.heap.size #[.int .i64 x.c0, .int .i64 x.c1, .int .i64 x.c2, .int .i64 x.last] 24 rfl
  have hE3 := hE2.alloc (.cells #[.int .i64 x.c0, .int .i64 x.c1, .int .i64 x.c2, .int .i64 x.last] 24)
  generalize w2.alloc (.cells #[.int .i64 x.c0, .int .i64 x.c1, .int .i64 x.c2, .int .i64 x.last] 24) = W at *
  clear B0' B1' B2 hE2
  have KS : Hid (∀ w', Ext W w' → Ext W w' ∧ (∀ o, w'.cell? ⟨w.heap.size, o, none⟩ = #[.int .i64 p.c0, .int .i64 p.c1, .int .i64 p.c2, .int .i64 p.last][o]?) ∧ (∀ o, w'.cell? ⟨w.heap.size + 1, o, none⟩ = #[.int .i64 q.c0, .int .i64 q.c1, .int .i64 q.c2, .int .i64 q.last][o]?) ∧ (∀ o, w'.cell? ⟨w1.heap.size, o, none⟩ = #[.int .i64 x.c0, .int .i64 x.c1, .int .i64 x.c2, .int .i64 x.last][o]?) ∧ (∀ o, w'.cell? ⟨w2.heap.size, o, none⟩ = #[.int .i64 x.c0, .int .i64 x.c1, .int .i64 x.c2, .int .i64 x.last][o]?) ) := fun w' h => ⟨h, (C0.ext h).cell, (C1.ext h).cell, (C2.ext h).cell, (C3.ext h).cell⟩
  have l0 := C0.lt
  have l1 := C1.lt
  have l2 := C2.lt
  have l3 := C3.lt
  have c0 := C0.cell
  have c1 := C1.cell
  have c2 := C2.cell
  have c3 := C3.cell
  clear C0 C1 C2 C3
  have e1 := eql_page x x
  rw [eqPg_refl] at e1
  have e2 := eql_arr p.c0 p.c1 p.c2 q.c0 q.c1 q.c2
  go_region_held3 (fun w' => Ext W w' ∧ (∀ o, w'.cell? ⟨w.heap.size, o, none⟩ = #[.int .i64 p.c0, .int .i64 p.c1, .int .i64 p.c2, .int .i64 p.last][o]?) ∧ (∀ o, w'.cell? ⟨w.heap.size + 1, o, none⟩ = #[.int .i64 q.c0, .int .i64 q.c1, .int .i64 q.c2, .int .i64 q.last][o]?) ∧ (∀ o, w'.cell? ⟨w1.heap.size, o, none⟩ = #[.int .i64 x.c0, .int .i64 x.c1, .int .i64 x.c2, .int .i64 x.last][o]?) ∧ (∀ o, w'.cell? ⟨w2.heap.size, o, none⟩ = #[.int .i64 x.c0, .int .i64 x.c1, .int .i64 x.c2, .int .i64 x.last][o]?) ) (first | exact KS.out _ (Ext.refl W).drew | exact KS.out _ (Ext.trans (And.left ‹Ext W _ ∧ _›) ‹Ext _ _›)) (first
    | (go_at_call 11; refine (pageBegun_any _).mono ?_; rintro e w' ⟨rfl, hw'⟩)
    | (go_at_call 12; refine (check_any p _).mono ?_; rintro e w' ⟨rfl, hw'⟩)
    | (go_at_call 13; refine (pageError_any p _).mono ?_; rintro e w' ⟨rfl, hw'⟩)
    | (go_at_call 14; refine (same_any p q _).mono ?_; rintro e w' ⟨rfl, hw'⟩))
  have hH : Ext W w' := And.left ‹Ext W w' ∧ _›
  have hs : sameCells p q = (p.c0 == q.c0 && (p.c1 == q.c1 && p.c2 == q.c2)) := rfl
  rw [hs]
  generalize (p.c0 == q.c0 && (p.c1 == q.c1 && p.c2 == q.c2)) = z
  rw [show (z == z) = true from by simp]
  go_wp2
  go_ret
  exact ⟨rfl, hE3.trans hH⟩

set_option maxRecDepth 100000 in
theorem pageTells_lifted (os : Os) (started : os.Started) (H : Type) (enc : TypeId × Value → H) :
    ReturnsInHanded {} Try.checked os 3 .any (Rows.pageTellsSpec.pre6 enc Try.prog Try.f3 Rows.pageTellsRow.domain false) (Rows.pageTellsSpec.post enc Try.prog Try.f3 false true false false) := by
  refine returnsInHanded_of_change (C := Try.checked) own started (by kernel_rfl) Try.func3
    (ChangeSpec.witness6 (enc := enc) (C := Try.checked) false ⟨#[], #[.agg #[.int .i64 0, .int .i64 0, .int .i64 0, .int .i64 0], .agg #[.int .i64 0, .int .i64 0, .int .i64 0, .int .i64 0], .int .i64 0, .int .i64 0, .int .i64 0], []⟩ 8 (by kernel_rfl) (by kernel_rfl) (by kernel_rfl) (by kernel_rfl)) ?_
  intro W base args ds gs before hval0 hW hcnd _
  have hval : ∀ (j : Nat) t v, Try.f3.params[j]? = some t → args[j]? = some v → Value.okWide Try.prog W .any base t v := hval0
  have hW' := hW
  obtain ⟨p, q, hA0, hV, rfl, hfz, hnd⟩ := hW
  have hA : DataW.TrodAll enc Try.prog W 0 (fun _ => true) true Try.f3.params.toList args.toList ds p := hA0
  rw [Try.params3] at hA hval
  obtain ⟨v0, vs0, d0, ds0, p0, q0, hargs, rfl, rfl, h0, r0⟩ := trodAll_cons hA
  obtain ⟨v1, vs1, d1, ds1, p1, q1, rfl, rfl, rfl, h1, r1⟩ := trodAll_cons r0
  obtain ⟨v2, vs2, d2, ds2, p2, q2, rfl, rfl, rfl, h2, r2⟩ := trodAll_cons r1
  obtain ⟨v3, vs3, d3, ds3, p3, q3, rfl, rfl, rfl, h3, r3⟩ := trodAll_cons r2
  obtain ⟨v4, vs4, d4, ds4, p4, q4, rfl, rfl, rfl, h4, r4⟩ := trodAll_cons r3
  obtain ⟨rfl, rfl, rfl⟩ := trodAll_nil r4
  obtain rfl : args = #[v0, v1, v2, v3, v4] := by cases args; simp_all
  obtain ⟨rfl, rfl⟩ := trodVars_none hV
  obtain ⟨a0, rfl⟩ := open_pg (hval 0 24 v0 rfl rfl)
  obtain ⟨a1, rfl⟩ := open_pg (hval 1 24 v1 rfl rfl)
  obtain ⟨a2, rfl, _⟩ := open_num (hval 2 3 v2 rfl rfl)
  obtain ⟨a3, rfl, _⟩ := open_num (hval 3 3 v3 rfl rfl)
  obtain ⟨a4, rfl, _⟩ := open_num (hval 4 3 v4 rfl rfl)
  clear hA0 hval0
  refine (pageTells_walk a0 a1 a2 a3 a4 W).mono fun e W' ⟨he, bel⟩ => ?_
  subst he
  exact ⟨_, rfl, _, _, _, [], _, [], hW', trodAll_mk1 (shut_bool Try.underlying4 _),
    (trodAll_cons_mk (Below.trod laidOut (by kernel_rfl) (of_decide_eq_true (by kernel_rfl)) h0 bel (lt_of_trod h0))
    (trodAll_cons_mk (Below.trod laidOut (by kernel_rfl) (of_decide_eq_true (by kernel_rfl)) h1 bel (lt_of_trod h1))
    (trodAll_cons_mk (Below.trod laidOut (by kernel_rfl) (of_decide_eq_true (by kernel_rfl)) h2 bel (lt_of_trod h2))
    (trodAll_cons_mk (Below.trod laidOut (by kernel_rfl) (of_decide_eq_true (by kernel_rfl)) h3 bel (lt_of_trod h3))
    (trodAll_cons_mk (Below.trod laidOut (by kernel_rfl) (of_decide_eq_true (by kernel_rfl)) h4 bel (lt_of_trod h4)) trodAll_mk0))))), rfl, bel.frame _, fun h => by cases h⟩

theorem pageTells_over : Rows.pageTellsRow.holds Try.pinned (OpenSpec.ofChange Rows.pageTellsSpec) :=
  OpenClaim.holds_of_wide 3 Try.f3 rfl rfl rfl rfl rfl rfl rfl ⟨rfl, rfl, rfl, rfl, rfl⟩ rfl rfl rfl rfl rfl (by kernel_rfl) Try.func3 (by kernel_rfl)
    (of_decide_eq_true (by kernel_rfl)) (by unfold Func.isWrapper; first | (rw [if_pos (by decide +kernel)]; kernel_rfl) | (rw [if_neg (by decide +kernel)]; exact ⟨rfl, rfl⟩))
    (fun os started H enc _ => pageTells_lifted os started H enc)
end Go.Proofs.Ytbmojkcmjoechaa.B
namespace Go.Proofs.Ytbmojkcmjoechaa
theorem pageTells_holds : Rows.PageTellsSaid := B.pageTells_over
#print axioms pageTells_holds
end Go.Proofs.Ytbmojkcmjoechaa
