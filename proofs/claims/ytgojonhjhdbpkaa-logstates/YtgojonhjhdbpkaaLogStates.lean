/- LogStates holds: log.State answers what the reference answers, errors too, whatever it is handed. -/
import Derived.Test.YtgojonhjhdbpkaaLogSt
import Derived.Test.YtgojonhjhdbpkaaOpen2
namespace Go.Proofs.Ytgojonhjhdbpkaa.B
set_option maxRecDepth 100000
open Go.ChangeShapes Go.WideShapes Go.ChangeAt Go.RowKit

set_option maxHeartbeats 1000000 in
set_option maxRecDepth 100000 in
theorem logStates_go (w : World) (a : Option Addr) (len cap : Nat) (l : List Rc) (h : Recs w a len l ∧ len ≤ cap ∧ len ≤ maxLen) (t : Int) (_ : IntKind.i64.has t) :
    Calls Try.prog 5 #[.slice a len cap, .int .i64 t] w fun e w' => e = .returned (.bool true) ∧ Ext w w' := by
  obtain ⟨hR, hc, hm⟩ := h
  have H1 := fun w' (e : Ext w w') => logState_any a len cap l t w' (hR.ext e) hm
  have H2 := fun w' (e : Ext w w') => stateOf_any a len cap l t w' (hR.ext e) hc hm
  generalize stateAns l t = x at *
  obtain ⟨x, y, z⟩ := x
  dsimp only at H1 H2
  go_enter Try.func5, Try.ntmps5
  go_wp2_with fail
  refine (H1 w (Ext.refl w)).mono ?_
  rintro e w1 ⟨rfl, E1⟩
  go_wp2_with fail
  refine (H2 w1 E1).mono ?_
  rintro e w2 ⟨rfl, hw2⟩
  have E2 := E1.trans hw2
  go_wp2_with fail
  refine (logBegun_any _).mono ?_
  rintro e w3 ⟨rfl, hw3⟩
  go_wp2_with fail
  go_ret
  exact ⟨by simp, E2.trans hw3⟩

set_option maxRecDepth 100000 in
theorem logStates_lifted (os : Os) (started : os.Started) (H : Type) (enc : TypeId × Value → H) :
    ReturnsInHanded {} Try.checked os 5 .any (Rows.logStatesSpec.pre6 enc Try.prog Try.f5 Rows.logStatesRow.domain false) (Rows.logStatesSpec.post enc Try.prog Try.f5 false true false false) := by
  refine returnsInHanded_of_change (C := Try.checked) own started (by kernel_rfl) Try.func5
    (ChangeSpec.witness6 (enc := enc) (C := Try.checked) false ⟨#[], #[.slice none 0 0, .int .i64 0], []⟩ 8 (by kernel_rfl) (by kernel_rfl) (by kernel_rfl) (by kernel_rfl)) ?_
  intro W base args ds gs before hval0 hW hcnd _
  have hval : ∀ (j : Nat) t v, Try.f5.params[j]? = some t → args[j]? = some v → Value.okWide Try.prog W .any base t v := hval0
  have hW' := hW
  obtain ⟨p, q, hA0, hV, rfl, hfz, hnd⟩ := hW
  have hA : DataW.TrodAll enc Try.prog W 0 (fun _ => true) true Try.f5.params.toList args.toList ds p := hA0
  rw [Try.params5] at hA hval
  obtain ⟨v0, vs0, d0, ds0, p0, q0, hargs, rfl, rfl, h0, r0⟩ := trodAll_cons hA
  obtain ⟨v1, vs1, d1, ds1, p1, q1, rfl, rfl, rfl, h1, r1⟩ := trodAll_cons r0
  obtain ⟨rfl, rfl, rfl⟩ := trodAll_nil r1
  obtain rfl : args = #[v0, v1] := by cases args; simp_all
  obtain ⟨rfl, rfl⟩ := trodVars_none hV
  obtain ⟨x0, len0, cap0, l0, rfl, s0⟩ := open_recs (hval 0 22 v0 rfl rfl) h0
  obtain ⟨a1, rfl, b1⟩ := open_num (hval 1 3 v1 rfl rfl)
  clear hA0 hval0
  refine (logStates_go W x0 len0 cap0 l0 s0 a1 b1).mono fun e W' ⟨he, bel⟩ => ?_
  subst he
  exact ⟨_, rfl, _, _, _, [], _, [], hW', trodAll_mk1 (shut_bool Try.underlying4 _),
    (trodAll_cons_mk (Below.trod laidOut (by kernel_rfl) (of_decide_eq_true (by kernel_rfl)) h0 bel (lt_of_trod h0))
    (trodAll_cons_mk (Below.trod laidOut (by kernel_rfl) (of_decide_eq_true (by kernel_rfl)) h1 bel (lt_of_trod h1))
    trodAll_mk0)), rfl, bel.frame _, fun h => by cases h⟩

theorem logStates_over : Rows.logStatesRow.holds Try.pinned (OpenSpec.ofChange Rows.logStatesSpec) :=
  OpenClaim.holds_of_wide 5 Try.f5 rfl rfl rfl rfl rfl rfl rfl ⟨rfl, rfl, rfl, rfl, rfl⟩ rfl rfl rfl rfl rfl (by kernel_rfl) Try.func5 (by kernel_rfl)
    (of_decide_eq_true (by kernel_rfl)) (by unfold Func.isWrapper; first | (rw [if_pos (by decide +kernel)]; kernel_rfl) | (rw [if_neg (by decide +kernel)]; exact ⟨rfl, rfl⟩))
    (fun os started H enc _ => logStates_lifted os started H enc)
end Go.Proofs.Ytgojonhjhdbpkaa.B
namespace Go.Proofs.Ytgojonhjhdbpkaa
theorem logStates_holds : Rows.LogStatesSaid := B.logStates_over
#print axioms logStates_holds
end Go.Proofs.Ytgojonhjhdbpkaa

