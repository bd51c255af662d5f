/- RecTrue holds: a record that may be of a number may be of each greater one there is; turned to what it was, it may be, too. -/
import Derived.Test.YtbmojkcmjoechaaRec3
namespace Go.Proofs.Ytbmojkcmjoechaa.B
open Go.ChangeShapes Go.WideShapes Go.ChangeAt Go.RowKit

theorem recErr_zero (n : Int) (r : Rc) : recErr n r = 0 ↔ (out 1 60 [n] = false ∧ out 1 4 [r.kind] = false ∧ outOf n r = false ∧ tooMuch r = false) := by
  unfold recErr
  cases out 1 60 [n] <;> cases out 1 4 [r.kind] <;> cases outOf n r <;> cases tooMuch r <;> simp
theorem outOf_false (n : Int) (r : Rc) : outOf n r = false ↔ (out 1 9 [r.txn] = false ∧ out 0 (n - 1) [r.prev] = false ∧ (turns r && cellOut r) = false ∧ (r.kind == 3 && out 0 (n - 1) [r.next]) = false) := by
  unfold outOf
  simp only [Bool.or_eq_false_iff]
def Rc.swap (r : Rc) : Rc := ⟨r.kind, r.txn, r.prev, r.page, r.cell, r.new, r.old, r.next⟩
theorem recErr_swap {n : Int} {r : Rc} (h : recErr n r = 0) : recErr n r.swap = 0 := by
  obtain ⟨k, t, p, pg, c, a, b, nx⟩ := r
  have e1 : cellOut (Rc.swap ⟨k, t, p, pg, c, a, b, nx⟩) = cellOut ⟨k, t, p, pg, c, a, b, nx⟩ := by
    unfold cellOut Rc.swap
    simp only [out_two]
    rw [Bool.or_comm (!wi b 0 99)]
  have e2 : outOf n (Rc.swap ⟨k, t, p, pg, c, a, b, nx⟩) = outOf n ⟨k, t, p, pg, c, a, b, nx⟩ := by
    unfold outOf
    rw [e1]
    rfl
  have e3 : tooMuch (Rc.swap ⟨k, t, p, pg, c, a, b, nx⟩) = tooMuch ⟨k, t, p, pg, c, a, b, nx⟩ := by
    unfold tooMuch Rc.swap
    simp only [out_zero4]
    rw [Bool.or_comm (b != 0)]
    rfl
  rw [recErr_zero] at *
  obtain ⟨h1, h2, h3, h4⟩ := h
  exact ⟨h1, h2, by rw [e2]; exact h3, by rw [e3]; exact h4⟩
theorem out0_mono {n m x : Int} (h : n ≤ m) (hx : out 0 (n - 1) [x] = false) : out 0 (m - 1) [x] = false := by
  simp [out] at *; omega
theorem recErr_mono {n m : Int} {r : Rc} (h : recErr n r = 0) (hn : n ≤ m) (hm : m ≤ 60) : recErr m r = 0 := by
  rw [recErr_zero] at *
  obtain ⟨h1, h2, h3, h4⟩ := h
  obtain ⟨n1, n2⟩ := out1_false h1
  refine ⟨by simp [out]; omega, h2, ?_, h4⟩
  rw [outOf_false] at *
  obtain ⟨a, b, c, d⟩ := h3
  refine ⟨a, out0_mono hn b, c, ?_⟩
  cases hk : (r.kind == 3)
  · rfl
  · rw [hk] at d
    simpa using out0_mono hn (by simpa using d)

set_option maxHeartbeats 1000000 in
set_option maxRecDepth 100000 in
theorem recTrue_walk (n : Int) (_ : IntKind.i64.has n) (m : Int) (_ : IntKind.i64.has m) (r : Rc) (w : World) :
    Calls Try.prog 6 #[.int .i64 n, .int .i64 m, r.val] w fun e w' => e = .returned (.bool true) ∧ Ext w w' := by
  by_cases h0 : recErr n r = 0
  · have HX : Hid (recErr n ⟨r.kind, r.txn, r.prev, r.page, r.cell, r.new, r.old, r.next⟩ = 0) := recErr_swap h0
    have HM : Hid (¬ m < n → ¬ 60 < m → recErr m r = 0) := fun a b => recErr_mono h0 (by omega) (by omega)
    have H0 := (show Hid _ from h0)
    clear h0
    go_enter Try.func6, Try.ntmps6
    go_wp2_with fail
    refine (recCheck_any n r _).mono ?_
    rintro e w1 ⟨rfl, hw1⟩
    rw [H0.out]
    have B0 := (Blk.new w w.heap.size r.cs 34 rfl).ext hw1
    have hE : Ext w w1 := ((Ext.refl w).alloc _).trans hw1
    clear hw1
    have c0 := B0.cell
    have l0 := B0.lt
    go_wp2_with fail
    go_region
    have C0 := (B0.alloc (.cells (Rc.cs ⟨r.kind, r.txn, r.prev, r.page, r.cell, r.new, r.old, r.next⟩) 34)).drew
    have C1 := (Blk.new w1 w1.heap.size (Rc.cs ⟨r.kind, r.txn, r.prev, r.page, r.cell, r.new, r.old, r.next⟩) 34 rfl).drew
    have hE2 := (hE.alloc (.cells (Rc.cs ⟨r.kind, r.txn, r.prev, r.page, r.cell, r.new, r.old, r.next⟩) 34)).drew
    clear B0 hE c0 l0
    go_wp2_with fail
    refine (recBegun_any _).mono ?_
    rintro e w2 ⟨rfl, hw2⟩
    have D0 := C0.ext hw2
    have D1 := C1.ext hw2
    have hE3 := hE2.trans hw2
    clear C0 C1 hE2 hw2
    have c0 := D0.cell
    have c1 := D1.cell
    by_cases k1 : m < n
    · go_wp2_with fail
      refine (recCheck_any n ⟨r.kind, r.txn, r.prev, r.page, r.cell, r.new, r.old, r.next⟩ _).mono ?_
      rintro e w3 ⟨rfl, hw3⟩
      rw [HX.out]
      go_wp2_with fail
      go_ret
      exact ⟨rfl, hE3.trans hw3⟩
    · by_cases k2 : 60 < m
      · go_wp2_with fail
        refine (recCheck_any n ⟨r.kind, r.txn, r.prev, r.page, r.cell, r.new, r.old, r.next⟩ _).mono ?_
        rintro e w3 ⟨rfl, hw3⟩
        rw [HX.out]
        go_wp2_with fail
        go_ret
        exact ⟨rfl, hE3.trans hw3⟩
      · have HM' : Hid (recErr m r = 0) := HM.out (by omega) (by omega)
        go_wp2_with fail
        refine (recCheck_any m r _).mono ?_
        rintro e w3 ⟨rfl, hw3⟩
        rw [HM'.out]
        have F1 := D1.ext hw3
        have hE4 := hE3.trans hw3
        clear D0 D1 hE3 hw3 c0 c1
        have c1 := F1.cell
        go_wp2_with fail
        refine (recCheck_any n ⟨r.kind, r.txn, r.prev, r.page, r.cell, r.new, r.old, r.next⟩ _).mono ?_
        rintro e w4 ⟨rfl, hw4⟩
        rw [HX.out]
        go_wp2_with fail
        go_ret
        exact ⟨rfl, hE4.trans hw4⟩
  · have hb : (recErr n r != 0) = true := by simpa using h0
    go_enter Try.func6, Try.ntmps6
    go_wp2_with fail
    refine (recCheck_any n r _).mono ?_
    rintro e w1 ⟨rfl, hw1⟩
    have hE : Ext w w1 := ((Ext.refl w).alloc _).trans hw1
    clear hw1
    go_wp2_with fail
    refine (recBegun_any _).mono ?_
    rintro e w2 ⟨rfl, hw2⟩
    go_wp2_with fail
    go_ret
    exact ⟨rfl, hE.trans hw2⟩

set_option maxRecDepth 100000 in
theorem recTrue_lifted (os : Os) (started : os.Started) (H : Type) (enc : TypeId × Value → H) :
    ReturnsInHanded {} Try.checked os 6 .any (Rows.recTrueSpec.pre6 enc Try.prog Try.f6 Rows.recTrueRow.domain false) (Rows.recTrueSpec.post enc Try.prog Try.f6 false true false false) := by
  refine returnsInHanded_of_change (C := Try.checked) own started (by kernel_rfl) Try.func6
    (ChangeSpec.witness6 (enc := enc) (C := Try.checked) false ⟨#[], #[.int .i64 0, .int .i64 0, .agg #[.int .i64 0, .int .i64 0, .int .i64 0, .int .i64 0, .int .i64 0, .int .i64 0, .int .i64 0, .int .i64 0]], []⟩ 8 (by kernel_rfl) (by kernel_rfl) (by kernel_rfl) (by kernel_rfl)) ?_
  intro W base args ds gs before hval0 hW hcnd _
  have hval : ∀ (j : Nat) t v, Try.f6.params[j]? = some t → args[j]? = some v → Value.okWide Try.prog W .any base t v := hval0
  have hW' := hW
  obtain ⟨p, q, hA0, hV, rfl, hfz, hnd⟩ := hW
  have hA : DataW.TrodAll enc Try.prog W 0 (fun _ => true) true Try.f6.params.toList args.toList ds p := hA0
  rw [Try.params6] at hA hval
  obtain ⟨v0, vs0, d0, ds0, p0, q0, hargs, rfl, rfl, h0, r0⟩ := trodAll_cons hA
  obtain ⟨v1, vs1, d1, ds1, p1, q1, rfl, rfl, rfl, h1, r1⟩ := trodAll_cons r0
  obtain ⟨v2, vs2, d2, ds2, p2, q2, rfl, rfl, rfl, h2, r2⟩ := trodAll_cons r1
  obtain ⟨rfl, rfl, rfl⟩ := trodAll_nil r2
  obtain rfl : args = #[v0, v1, v2] := by cases args; simp_all
  obtain ⟨rfl, rfl⟩ := trodVars_none hV
  obtain ⟨a0, rfl, b0⟩ := open_num (hval 0 3 v0 rfl rfl)
  obtain ⟨a1, rfl, b1⟩ := open_num (hval 1 3 v1 rfl rfl)
  obtain ⟨a2, rfl⟩ := open_rc (hval 2 34 v2 rfl rfl)
  clear hA0 hval0
  refine (recTrue_walk a0 b0 a1 b1 a2 W).mono fun e W' ⟨he, bel⟩ => ?_
  subst he
  exact ⟨_, rfl, _, _, _, [], _, [], hW', trodAll_mk1 (shut_bool Try.underlying4 _),
    (trodAll_cons_mk (Below.trod laidOut (by kernel_rfl) (of_decide_eq_true (by kernel_rfl)) h0 bel (lt_of_trod h0))
    (trodAll_cons_mk (Below.trod laidOut (by kernel_rfl) (of_decide_eq_true (by kernel_rfl)) h1 bel (lt_of_trod h1))
    (trodAll_cons_mk (Below.trod laidOut (by kernel_rfl) (of_decide_eq_true (by kernel_rfl)) h2 bel (lt_of_trod h2))
    trodAll_mk0))), rfl, bel.frame _, fun h => by cases h⟩

theorem recTrue_over : Rows.recTrueRow.holds Try.pinned (OpenSpec.ofChange Rows.recTrueSpec) :=
  OpenClaim.holds_of_wide 6 Try.f6 rfl rfl rfl rfl rfl rfl rfl ⟨rfl, rfl, rfl, rfl, rfl⟩ rfl rfl rfl rfl rfl (by kernel_rfl) Try.func6 (by kernel_rfl)
    (of_decide_eq_true (by kernel_rfl)) (by unfold Func.isWrapper; first | (rw [if_pos (by decide +kernel)]; kernel_rfl) | (rw [if_neg (by decide +kernel)]; exact ⟨rfl, rfl⟩))
    (fun os started H enc _ => recTrue_lifted os started H enc)
end Go.Proofs.Ytbmojkcmjoechaa.B
namespace Go.Proofs.Ytbmojkcmjoechaa
theorem recTrue_holds : Rows.RecTrueSaid := B.recTrue_over
#print axioms recTrue_holds
end Go.Proofs.Ytbmojkcmjoechaa

