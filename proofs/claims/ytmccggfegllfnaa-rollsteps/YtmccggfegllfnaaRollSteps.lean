/- RollSteps holds: roll.Step answers what the reference answers, errors too, whatever it is handed. -/
import Derived.Test.YtmccggfegllfnaaRoll2
import Derived.Test.YtmccggfegllfnaaRoll4
namespace Go.Proofs.Ytmccggfegllfnaa.B
set_option maxRecDepth 100000
open Go.ChangeShapes Go.WideShapes Go.ChangeAt Go.RowKit

set_option maxHeartbeats 4000000 in
theorem rollSteps_go (w : World) (a : Option Addr) (len cap : Nat) (l : List Rc) (h : Recs w a len l ∧ len ≤ cap ∧ len ≤ maxLen) (t : Int) (_ : IntKind.i64.has t) :
    Calls Try.prog 4 #[.slice a len cap, .int .i64 t] w fun e w' => e = .returned (.bool true) ∧ Ext w w' := by
  obtain ⟨hR, hc, hm⟩ := h
  have H1 := rollStep_any a len cap l t w hR hm
  have H2 := fun w' (e : Ext w w') => rollOf_any a len cap l t w' (hR.ext e) hc hm
  generalize stepAns l t = sx at *
  obtain ⟨⟨r0, r1, r2, r3, r4, r5, r6, r7⟩, x⟩ := sx
  dsimp only at H1 H2
  have e1 := eql_rec ⟨r0, r1, r2, r3, r4, r5, r6, r7⟩ ⟨r0, r1, r2, r3, r4, r5, r6, r7⟩
  rw [eqRc_refl] at e1
  go_enter Try.func4, Try.ntmps4
  go_wp2_with fail
  refine H1.mono ?_
  rintro e w1 ⟨rfl, hw⟩
  have E1 := hw.alloc (.cells #[.int .i64 r0, .int .i64 r1, .int .i64 r2, .int .i64 r3, .int .i64 r4, .int .i64 r5, .int .i64 r6, .int .i64 r7] 41)
  have X := Blk.new w1 w1.heap.size #[.int .i64 r0, .int .i64 r1, .int .i64 r2, .int .i64 r3, .int .i64 r4, .int .i64 r5, .int .i64 r6, .int .i64 r7] 41 rfl
  clear hw H1
  go_wp2_with fail
  refine (H2 _ E1).mono ?_
  rintro e w2 ⟨rfl, hw⟩
  have E2 := (E1.trans hw).alloc (.cells #[.int .i64 r0, .int .i64 r1, .int .i64 r2, .int .i64 r3, .int .i64 r4, .int .i64 r5, .int .i64 r6, .int .i64 r7] 41)
  have X2 := (X.ext hw).alloc (.cells #[.int .i64 r0, .int .i64 r1, .int .i64 r2, .int .i64 r3, .int .i64 r4, .int .i64 r5, .int .i64 r6, .int .i64 r7] 41)
  have Y := Blk.new w2 w2.heap.size #[.int .i64 r0, .int .i64 r1, .int .i64 r2, .int .i64 r3, .int .i64 r4, .int .i64 r5, .int .i64 r6, .int .i64 r7] 41 rfl
  clear hw H2 E1 X
  go_wp2_with fail
  refine (rollBegun_any _).mono ?_
  rintro e w3 ⟨rfl, hw⟩
  have xc := (X2.ext hw).cell
  have yc := (Y.ext hw).cell
  have E3 := E2.trans hw
  clear hw
  go_wp2_with fail
  go_ret
  exact ⟨by simp, E3⟩

set_option maxRecDepth 100000 in
theorem rollSteps_lifted (os : Os) (started : os.Started) (H : Type) (enc : TypeId × Value → H) :
    ReturnsInHanded {} Try.checked os 4 .any (Rows.rollStepsSpec.pre6 enc Try.prog Try.f4 Rows.rollStepsRow.domain false) (Rows.rollStepsSpec.post enc Try.prog Try.f4 false true false false) := by
  refine returnsInHanded_of_change (C := Try.checked) own started (by kernel_rfl) Try.func4
    (ChangeSpec.witness6 (enc := enc) (C := Try.checked) false ⟨#[], #[.slice none 0 0, .int .i64 0], []⟩ 8 (by kernel_rfl) (by kernel_rfl) (by kernel_rfl) (by kernel_rfl)) ?_
  intro W base args ds gs before hval0 hW hcnd _
  have hval : ∀ (j : Nat) t v, Try.f4.params[j]? = some t → args[j]? = some v → Value.okWide Try.prog W .any base t v := hval0
  have hW' := hW
  obtain ⟨p, q, hA0, hV, rfl, hfz, hnd⟩ := hW
  have hA : DataW.TrodAll enc Try.prog W 0 (fun _ => true) true Try.f4.params.toList args.toList ds p := hA0
  rw [Try.params4] at hA hval
  obtain ⟨v0, vs0, d0, ds0, p0, q0, hargs, rfl, rfl, h0, r0⟩ := trodAll_cons hA
  obtain ⟨v1, vs1, d1, ds1, p1, q1, rfl, rfl, rfl, h1, r1⟩ := trodAll_cons r0
  obtain ⟨rfl, rfl, rfl⟩ := trodAll_nil r1
  obtain rfl : args = #[v0, v1] := by cases args; simp_all
  obtain ⟨rfl, rfl⟩ := trodVars_none hV
  obtain ⟨x0, len0, cap0, l0, rfl, s0⟩ := open_recs (hval 0 26 v0 rfl rfl) h0
  obtain ⟨a1, rfl, b1⟩ := open_num (hval 1 3 v1 rfl rfl)
  clear hA0 hval0
  refine (rollSteps_go W x0 len0 cap0 l0 s0 a1 b1).mono fun e W' ⟨he, bel⟩ => ?_
  subst he
  exact ⟨_, rfl, _, _, _, [], _, [], hW', trodAll_mk1 (shut_bool Try.underlying4 _),
    (trodAll_cons_mk (Below.trod laidOut (by kernel_rfl) (of_decide_eq_true (by kernel_rfl)) h0 bel (lt_of_trod h0))
    (trodAll_cons_mk (Below.trod laidOut (by kernel_rfl) (of_decide_eq_true (by kernel_rfl)) h1 bel (lt_of_trod h1))
    trodAll_mk0)), rfl, bel.frame _, fun h => by cases h⟩

theorem rollSteps_over : Rows.rollStepsRow.holds Try.pinned (OpenSpec.ofChange Rows.rollStepsSpec) :=
  OpenClaim.holds_of_wide 4 Try.f4 rfl rfl rfl rfl rfl rfl rfl ⟨rfl, rfl, rfl, rfl, rfl⟩ rfl rfl rfl rfl rfl (by kernel_rfl) Try.func4 (by kernel_rfl)
    (of_decide_eq_true (by kernel_rfl)) (by unfold Func.isWrapper; first | (rw [if_pos (by decide +kernel)]; kernel_rfl) | (rw [if_neg (by decide +kernel)]; exact ⟨rfl, rfl⟩))
    (fun os started H enc _ => rollSteps_lifted os started H enc)
end Go.Proofs.Ytmccggfegllfnaa.B
namespace Go.Proofs.Ytmccggfegllfnaa
theorem rollSteps_holds : Rows.RollStepsSaid := B.rollSteps_over
#print axioms rollSteps_holds
end Go.Proofs.Ytmccggfegllfnaa

