/- LogTrue holds: wherever a right log is cut, it is right; a Txn's state never goes back. -/
import Derived.Test.YtgojonhjhdbpkaaLogL2
import Derived.Test.YtgojonhjhdbpkaaOpen2
import Derived.Test.YtgojonhjhdbpkaaChoose
import Derived.Test.YtgojonhjhdbpkaaChain2
namespace Go.Proofs.Ytgojonhjhdbpkaa.B
set_option maxRecDepth 100000
open Go.ChangeShapes Go.WideShapes Go.ChangeAt Go.RowKit

theorem stateAns_right {l : List Rc} (h : logErr l = 0) {m : Nat} (hm : m < 9) : stateAns l (1 + (m : Int)) = (stateR l (1 + (m : Int)), ((lastR l (1 + (m : Int)) : Nat) : Int), 0) := by
  unfold stateAns
  rw [if_pos h, out_one]
  have : wi (1 + (m : Int)) 1 9 = true := by simp [wi]; omega
  rw [this]; rfl
set_option maxHeartbeats 1000000 in
set_option maxRecDepth 100000 in
theorem logTrue_go (w : World) (a : Option Addr) (len cap : Nat) (l : List Rc) (h : Recs w a len l ∧ len ≤ cap ∧ len ≤ maxLen) (c : Int) (bc : IntKind.i64.has c) (t : Int) (bt : IntKind.i64.has t) :
    Calls Try.prog 6 #[.slice a len cap, .int .i64 c, .int .i64 t] w fun e w' => e = .returned (.bool true) ∧ Ext w w' := by
  obtain ⟨hR, hc, hm⟩ := h
  have H1 := fun w' (e : Ext w w') => logCheck_any a len cap l w' (hR.ext e) hm
  by_cases h0 : logErr l = 0
  · rw [h0] at H1
    obtain ⟨h60, hRt⟩ := logErr_zero h0
    have hlen := hR.len
    have hn := chooseN_lt c (n := len + 1) (by omega)
    have ht := chooseN_lt t (n := 9) (by omega)
    have HC1 := choose_any c (len + 1) 
    have HC2 := choose_any t 9
    have S1 := stateAns_right h0 ht
    have S2 := stateAns_right (logErr_pre h0 (chooseN c (len + 1))) ht
    have F := right_further (1 + (chooseN t 9 : Int)) l hRt (chooseN c (len + 1))
    have L := lastR_le (1 + (chooseN t 9 : Int)) (l.take (chooseN c (len + 1)))
    have H2 := fun w' (e : Ext w w') => logState_any a _ cap _ (1 + (chooseN t 9 : Int)) w' ((hR.ext e).take (chooseN c (len + 1)) (by omega)) (by omega)
    have H3 := fun w' (e : Ext w w') => logState_any a len cap l (1 + (chooseN t 9 : Int)) w' (hR.ext e) hm
    have H4 := fun w' (e : Ext w w') => logCheck_any a _ cap _ w' ((hR.ext e).take (chooseN c (len + 1)) (by omega)) (by omega)
    rw [S1] at H3
    rw [S2] at H2
    rw [logErr_pre h0] at H4
    rw [List.length_take] at L
    have f1 := F.state
    have f2 := F.two
    have f3 := F.last
    clear F S1 S2
    generalize chooseN c (len + 1) = n at *
    generalize chooseN t 9 = m at *
    generalize stateR (l.take n) (1 + (m : Int)) = sa at *
    generalize stateR l (1 + (m : Int)) = sb at *
    generalize lastR (l.take n) (1 + (m : Int)) = la at *
    generalize lastR l (1 + (m : Int)) = lb at *
    have g3 : (la : Int) ≤ (lb : Int) := by omega
    have g4 : (la : Int) ≤ (n : Int) := by omega
    have hcut : n ≤ cap := by omega
    dsimp only at H2 H3
    go_enter Try.func6, Try.ntmps6
    go_wp2_with fail
    refine (H1 w (Ext.refl w)).mono ?_
    rintro e w1 ⟨rfl, E1⟩
    go_wp2_with fail
    refine (HC1 _ bc (by omega) (by omega)).mono ?_
    rintro e w2 ⟨rfl, rfl⟩
    go_wp2_with fail
    obtain ⟨F, hF⟩ := calm_there w2
    have KC : Hid (∀ w', Ext w2 w' → ∃ v, w' = F v) := fun w' e => ⟨w', (hF.same w' e).symm⟩
    refine wp_region_line (S := fun w' => ∃ v, w' = F v) [4, 1] (by kernel_rfl) (by kernel_rfl) (fun c a d v w h => by cases d <;> exact h) (by kernel_rfl) (KC.out _ (Ext.refl w2).drew) ?_
    simp only [cutL, List.drop_succ_cons, List.drop_zero, List.take_succ_cons, List.take_zero]
    have F0 := (Ext.refl w2).drew
    refine wpLine_cons ?_
    repeat (go_big_quiet_step (fail))
    refine wpQuiet_nil ?_
    intro K hK
    rw [if_pos (by kernel_rfl)]
    go_simp
    refine (HC2 _ bt (by omega) (by omega)).mono ?_
    rintro e v1 ⟨rfl, rfl⟩
    go_wp2_with fail
    refine hK.out _ _ (KC.out _ F0) (fun _ => ?_)
    clear hK K
    refine wpLine_cons ?_
    repeat (go_big_quiet_step (fail))
    refine wpQuiet_nil ?_
    intro K hK
    rw [if_pos (by kernel_rfl)]
    go_simp
    refine (H2 _ (E1.trans F0)).mono ?_
    rintro e v1 ⟨rfl, hw⟩
    have F1 := F0.trans hw
    go_wp2_with fail
    refine hK.out _ _ (KC.out _ F1) (fun _ => ?_)
    clear hK K
    refine wpLine_nil ?_
    repeat (go_big_quiet_step (fail))
    refine wpQuiet_nil ?_
    have E2 := E1.trans F1
    clear KC hF F0 F1 hw E1
    go_wp2_with fail
    refine (HC2 _ bt (by omega) (by omega)).mono ?_
    rintro e v2 ⟨rfl, rfl⟩
    go_wp2_with fail
    refine (H3 _ E2).mono ?_
    rintro e v3 ⟨rfl, hw⟩
    have E3 := E2.trans hw
    go_wp2_with fail
    refine (logBegun_any _).mono ?_
    rintro e v4 ⟨rfl, hw4⟩
    have E4 := E3.trans hw4
    go_wp2_with fail
    refine (H4 _ E4).mono ?_
    rintro e v5 ⟨rfl, hw5⟩
    have E5 := E4.trans hw5
    by_cases k2 : sa = 2
    · have k3 : sb ≠ 3 := by have := f2 k2; omega
      subst k2
      have b3 : (sb != 3) = true := by simpa using k3
      go_wp2_with fail
      go_ret
      exact ⟨by simp, E5⟩
    · have b2 : (sa != 2) = true := by simpa using k2
      go_wp2_with fail
      go_ret
      exact ⟨by simp, E5⟩
  · have hb : (logErr l != 0) = true := by simpa using h0
    generalize logErr l = x at *
    go_enter Try.func6, Try.ntmps6
    go_wp2_with fail
    refine (H1 w (Ext.refl w)).mono ?_
    rintro e w1 ⟨rfl, E1⟩
    go_wp2_with fail
    refine (logBegun_any _).mono ?_
    rintro e w3 ⟨rfl, hw3⟩
    go_wp2_with fail
    go_ret
    exact ⟨rfl, E1.trans hw3⟩

set_option maxRecDepth 100000 in
theorem logTrue_lifted (os : Os) (started : os.Started) (H : Type) (enc : TypeId × Value → H) :
    ReturnsInHanded {} Try.checked os 6 .any (Rows.logTrueSpec.pre6 enc Try.prog Try.f6 Rows.logTrueRow.domain false) (Rows.logTrueSpec.post enc Try.prog Try.f6 false true false false) := by
  refine returnsInHanded_of_change (C := Try.checked) own started (by kernel_rfl) Try.func6
    (ChangeSpec.witness6 (enc := enc) (C := Try.checked) false ⟨#[], #[.slice none 0 0, .int .i64 0, .int .i64 0], []⟩ 8 (by kernel_rfl) (by kernel_rfl) (by kernel_rfl) (by kernel_rfl)) ?_
  intro W base args ds gs before hval0 hW hcnd _
  have hval : ∀ (j : Nat) t v, Try.f6.params[j]? = some t → args[j]? = some v → Value.okWide Try.prog W .any base t v := hval0
  have hW' := hW
  obtain ⟨p, q, hA0, hV, rfl, hfz, hnd⟩ := hW
  have hA : DataW.TrodAll enc Try.prog W 0 (fun _ => true) true Try.f6.params.toList args.toList ds p := hA0
  rw [Try.params6] at hA hval
  obtain ⟨v0, vs0, d0, ds0, p0, q0, hargs, rfl, rfl, h0, r0⟩ := trodAll_cons hA
  obtain ⟨v1, vs1, d1, ds1, p1, q1, rfl, rfl, rfl, h1, r1⟩ := trodAll_cons r0
  obtain ⟨v2, vs2, d2, ds2, p2, q2, rfl, rfl, rfl, h2, r2⟩ := trodAll_cons r1
  obtain ⟨rfl, rfl, rfl⟩ := trodAll_nil r2
  obtain rfl : args = #[v0, v1, v2] := by cases args; simp_all
  obtain ⟨rfl, rfl⟩ := trodVars_none hV
  obtain ⟨x0, len0, cap0, l0, rfl, s0⟩ := open_recs (hval 0 22 v0 rfl rfl) h0
  obtain ⟨a1, rfl, b1⟩ := open_num (hval 1 3 v1 rfl rfl)
  obtain ⟨a2, rfl, b2⟩ := open_num (hval 2 3 v2 rfl rfl)
  clear hA0 hval0
  refine (logTrue_go W x0 len0 cap0 l0 s0 a1 b1 a2 b2).mono fun e W' ⟨he, bel⟩ => ?_
  subst he
  exact ⟨_, rfl, _, _, _, [], _, [], hW', trodAll_mk1 (shut_bool Try.underlying4 _),
    (trodAll_cons_mk (Below.trod laidOut (by kernel_rfl) (of_decide_eq_true (by kernel_rfl)) h0 bel (lt_of_trod h0))
    (trodAll_cons_mk (Below.trod laidOut (by kernel_rfl) (of_decide_eq_true (by kernel_rfl)) h1 bel (lt_of_trod h1))
    (trodAll_cons_mk (Below.trod laidOut (by kernel_rfl) (of_decide_eq_true (by kernel_rfl)) h2 bel (lt_of_trod h2))
    trodAll_mk0))), rfl, bel.frame _, fun h => by cases h⟩

theorem logTrue_over : Rows.logTrueRow.holds Try.pinned (OpenSpec.ofChange Rows.logTrueSpec) :=
  OpenClaim.holds_of_wide 6 Try.f6 rfl rfl rfl rfl rfl rfl rfl ⟨rfl, rfl, rfl, rfl, rfl⟩ rfl rfl rfl rfl rfl (by kernel_rfl) Try.func6 (by kernel_rfl)
    (of_decide_eq_true (by kernel_rfl)) (by unfold Func.isWrapper; first | (rw [if_pos (by decide +kernel)]; kernel_rfl) | (rw [if_neg (by decide +kernel)]; exact ⟨rfl, rfl⟩))
    (fun os started H enc _ => logTrue_lifted os started H enc)
end Go.Proofs.Ytgojonhjhdbpkaa.B
namespace Go.Proofs.Ytgojonhjhdbpkaa
theorem logTrue_holds : Rows.LogTrueSaid := B.logTrue_over
#print axioms logTrue_holds
end Go.Proofs.Ytgojonhjhdbpkaa

