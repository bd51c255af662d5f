/- ActRight holds: whatever is done to a right world, what comes is right; no less is safe, and what was safe stays, ahead of all. -/
import Derived.Test.YtbfefocehnafgaaGreatAct5
namespace Go.Proofs.YtbfefocehnafgaaGreat.B
set_option maxRecDepth 100000
open Go.ChangeShapes Go.WideShapes Go.ChangeAt Go.RowKit

set_option maxHeartbeats 8000000 in
theorem actRight_go (w : World) (p q r : Pg) (a : Option Addr) (len cap : Nat) (l : List Rc) (safe : Int) (h : LogIn w a len cap l) (x : Ac) :
    Calls Tryz.prog 5 #[wdVal p q r (.slice a len cap) safe, x.v] w fun e w' => e = .returned (.bool true) ∧ Ext w w' := by
  have hll := h.recs.len
  have H1 := fun W (e : Ext w W) => actDo_any ⟨p, q, r, l, safe⟩ a len cap x W (h.ext e)
  have H2 := fun w' (e : Ext w w') => worldError_any p q r a len cap l safe w' (h.recs.ext e) h.le h.max
  have HA : Hid (doErr ⟨p, q, r, l, safe⟩ x = 0 → worldErr p q r l safe = 0 ∧ (doV ⟨p, q, r, l, safe⟩ x).err = 0 ∧ safe ≤ (doV ⟨p, q, r, l, safe⟩ x).safe ∧ (doV ⟨p, q, r, l, safe⟩ x).l.take safe.toNat = l.take safe.toNat ∧ (∃ n : Nat, safe = n ∧ n ≤ len ∧ n ≤ 60 ∧ n ≤ (doV ⟨p, q, r, l, safe⟩ x).l.length)) := fun e => by
    have hr := do_right e
    have hv : doV ⟨p, q, r, l, safe⟩ x = doTo ⟨p, q, r, l, safe⟩ x := by unfold doV; rw [if_pos e]
    rw [hv]
    obtain ⟨k1, k2, k3, k4⟩ := hr
    have s1 := safe_le k1
    have s2 := safe_le k2
    dsimp only at s1 k3 k4
    have hz : (⟨p, q, r, l, safe⟩ : Wd).l.length ≤ 60 := right_len _ (logErr_zero (worldErr_zero k1).1).2
    dsimp only at hz
    exact ⟨k1, k2, k3, k4, safe.toNat, by omega, by omega, by omega, by omega⟩
  have hm60 := doV_len ⟨p, q, r, l, safe⟩ x
  generalize doErr ⟨p, q, r, l, safe⟩ x = x1 at *
  generalize doV ⟨p, q, r, l, safe⟩ x = V at *
  obtain ⟨p2, q2, r2, m, s2⟩ := V
  unfold DoW at H1
  unfold Wd.err at HA
  dsimp only at H1 HA hm60
  have E0 := ((Ext.refl w).alloc (.cells (wdCells p q r (.slice a len cap) safe) 28)).alloc (.cells x.ar 30)
  have B0 := (Blk.new w w.heap.size (wdCells p q r (.slice a len cap) safe) 28 rfl).alloc (.cells x.ar 30)
  have A0 := Blk.new (w.alloc (.cells (wdCells p q r (.slice a len cap) safe) 28)) (w.heap.size + 1) x.ar 30 (by simp)
  have b0 := B0.cell
  have a0 := A0.cell
  by_cases hx : x1 = 0
  · obtain ⟨hz, hv, hs, ht, n, rfl, hn1, hn2, hn3⟩ := HA.out hx
    subst hx
    rw [hz] at H2
    rw [Int.toNat_natCast] at ht
    have hnc : n ≤ cap := by have := h.le; omega
    have HT := (show Hid (m.take n = l.take n) from ht)
    have hs1 : ¬ s2 < (n : Int) := by omega
    have hs2 : ¬ (m.length : Int) < (n : Int) := by omega
    have HK : Hid (∀ W a1 cap1, LogIn W a1 m.length cap1 m → Calls Tryz.prog 16 #[wdVal p2 q2 r2 (.slice a1 m.length cap1) s2] W fun e w' => e = .returned (.int .i64 0) ∧ Ext W w') := fun W a1 cap1 i => by
      have := worldCheck_any p2 q2 r2 a1 m.length cap1 m s2 W i.recs i.nil i.max
      rw [hv] at this
      exact this
    clear HA hz hv hs ht
    go_enter Tryz.func5, Tryz.ntmps5
    go_wp2_with fail
    refine (H1 _ E0).mono ?_
    rintro e w1 ⟨hw, a1, cap1, rfl, L1, _⟩
    have hmc := L1.le
    have o1 := (Ext.refl w1).alloc (.cells (wdCells p2 q2 r2 (.slice a1 m.length cap1) s2) 28)
    have X1 := Blk.new w1 w1.heap.size (wdCells p2 q2 r2 (.slice a1 m.length cap1) s2) 28 rfl
    have E1 := (E0.trans hw).trans o1
    have B1 := (B0.ext hw).ext o1
    have R1 := L1.ext o1
    clear hw o1 b0 a0 B0 A0 E0 H1 L1
    have b1 := B1.cell
    go_wp2_with fail
    refine (H2 _ E1).mono ?_
    rintro e w2 ⟨rfl, hw⟩
    have E2 := E1.trans hw
    have B2 := B1.ext hw
    have X2 := X1.ext hw
    have R2 := R1.ext hw
    clear hw b1 B1 E1 H2 X1 R1
    generalize w1.heap.size = bx at *
    have x2 := X2.cell
    go_wp2_with fail
    refine (HK.out _ _ _ R2).mono ?_
    rintro e w3 ⟨rfl, hw⟩
    have E3 := E2.trans hw
    have B3 := B2.ext hw
    have X3 := X2.ext hw
    have R3 := R2.ext hw
    clear hw x2 B2 E2 X2 R2 HK
    have b3 := B3.cell
    have x3 := X3.cell
    go_wp2_with fail
    clear b3 x3
    obtain ⟨F, hF⟩ := calm_there w3
    have KC : Hid (∀ w', Ext w3 w' → ∃ v, w' = F v) := fun w' e => ⟨w', (hF.same w' e).symm⟩
    have bc := hF.cell B3
    have xc := hF.cell X3
    refine wp_region_line (S := fun w' => ∃ v, w' = F v) [0, 11] (by kernel_rfl) (by kernel_rfl) (fun c a d v w h => by cases d <;> exact h) (by kernel_rfl) (KC.out _ (Ext.refl w3).drew) ?_
    simp only [cutL, List.drop_succ_cons, List.drop_zero, List.take_succ_cons, List.take_zero]
    have F0 := (Ext.refl w3).drew
    refine wpLine_cons ?_
    refine wpQuiet_nil ?_
    intro K hK
    rw [if_pos (by kernel_rfl)]
    go_simp
    refine (actBegun_any _).mono ?_
    rintro e v1 ⟨rfl, hw⟩
    have F1 := F0.trans hw
    go_wp2_with fail
    refine hK.out _ _ (KC.out _ F1) (fun _ => ?_)
    clear hK K
    refine wpLine_cons ?_
    repeat (go_big_quiet_step (fail))
    refine wpQuiet_nil ?_
    intro K hK
    rw [if_pos (by kernel_rfl)]
    go_simp
    refine (sameLogs_eq a1 a n cap1 cap (m.take n) v1 ((R3.ext F1).recs.take n hn3) (by rw [HT.out]; exact (h.recs.ext (E3.trans F1)).take n hn1) (by omega)).mono ?_
    rintro e v2 ⟨rfl, hw2⟩
    have F2 := F1.trans hw2
    go_wp2_with fail
    refine hK.out _ _ (KC.out _ F2) (fun _ => ?_)
    clear hK K
    refine wpLine_nil ?_
    repeat (go_big_quiet_step (fail))
    refine wpQuiet_nil ?_
    go_wp2_with fail
    go_ret
    exact ⟨by first | rfl | simp, E3.trans F2⟩
  · clear HA
    have hb1 : (x1 != 0) = true := by simpa using hx
    go_enter Tryz.func5, Tryz.ntmps5
    go_wp2_with fail
    refine (H1 _ E0).mono ?_
    rintro e w1 ⟨hw, a1, cap1, rfl, L1, _⟩
    have o1 := hw.alloc (.cells (wdCells p2 q2 r2 (.slice a1 m.length cap1) s2) 28)
    have E1 := E0.trans o1
    clear hw o1 b0 a0 B0 A0 E0 H1 L1
    go_wp2_with fail
    refine (actBegun_any _).mono ?_
    rintro e w3 ⟨rfl, hw⟩
    go_wp2_with fail
    go_ret
    exact ⟨by first | rfl | simp, E1.trans hw⟩

set_option maxRecDepth 100000 in
theorem actRight_lifted (os : Os) (started : os.Started) (H : Type) (enc : TypeId × Value → H) :
    ReturnsInHanded {} Tryz.checked os 5 .any (Rows.actRightSpec.pre6 enc Tryz.prog Tryz.f5 Rows.actRightRow.domain false) (Rows.actRightSpec.post enc Tryz.prog Tryz.f5 false true false false) := by
  refine returnsInHanded_of_change (C := Tryz.checked) own started (by kernel_rfl) Tryz.func5
    (ChangeSpec.witness6 (enc := enc) (C := Tryz.checked) false ⟨#[], #[.agg #[.int .i64 0, .int .i64 0, .int .i64 0, .int .i64 0, .int .i64 0, .int .i64 0, .int .i64 0, .int .i64 0, .int .i64 0, .int .i64 0, .int .i64 0, .int .i64 0, .slice none 0 0, .int .i64 0], .agg #[.int .i64 0, .int .i64 0, .int .i64 0, .int .i64 0, .int .i64 0]], []⟩ 8 (by kernel_rfl) (by kernel_rfl) (by kernel_rfl) (by kernel_rfl)) ?_
  intro W base args ds gs before hval0 hW hcnd _
  have hval : ∀ (j : Nat) t v, Tryz.f5.params[j]? = some t → args[j]? = some v → Value.okWide Tryz.prog W .any base t v := hval0
  have hW' := hW
  obtain ⟨p, q, hA0, hV, rfl, hfz, hnd⟩ := hW
  have hA : DataW.TrodAll enc Tryz.prog W 0 (fun _ => true) true Tryz.f5.params.toList args.toList ds p := hA0
  rw [Tryz.params5] at hA hval
  obtain ⟨v0, vs0, d0, ds0, p0, q0, hargs, rfl, rfl, h0, r0⟩ := trodAll_cons hA
  obtain ⟨v1, vs1, d1, ds1, p1, q1, rfl, rfl, rfl, h1, r1⟩ := trodAll_cons r0
  obtain ⟨rfl, rfl, rfl⟩ := trodAll_nil r1
  obtain rfl : args = #[v0, v1] := by cases args; simp_all
  obtain ⟨rfl, rfl⟩ := trodVars_none hV
  obtain ⟨P0, Q0, R0, x0, len0, cap0, l0, safe0, rfl, s0⟩ := open_wd (hval 0 28 v0 rfl rfl) h0
  obtain ⟨a1, rfl⟩ := open_ac (hval 1 30 v1 rfl rfl)
  clear hA0 hval0
  refine (actRight_go W P0 Q0 R0 x0 len0 cap0 l0 safe0 s0 a1).mono fun e W' ⟨he, bel⟩ => ?_
  subst he
  exact ⟨_, rfl, _, _, _, [], _, [], hW', trodAll_mk1 (shut_bool Tryz.underlying4 _),
    (trodAll_cons_mk (Below.trod laidOut (by kernel_rfl) (of_decide_eq_true (by kernel_rfl)) h0 bel (lt_of_trod h0))
    (trodAll_cons_mk (Below.trod laidOut (by kernel_rfl) (of_decide_eq_true (by kernel_rfl)) h1 bel (lt_of_trod h1))
    trodAll_mk0)), rfl, bel.frame _, fun h => by cases h⟩

theorem actRight_over : Rows.actRightRow.holds Tryz.pinned (OpenSpec.ofChange Rows.actRightSpec) :=
  OpenClaim.holds_of_wide 5 Tryz.f5 rfl rfl rfl rfl rfl rfl rfl ⟨rfl, rfl, rfl, rfl, rfl⟩ rfl rfl rfl rfl rfl (by kernel_rfl) Tryz.func5 (by kernel_rfl)
    (of_decide_eq_true (by kernel_rfl)) (by unfold Func.isWrapper; first | (rw [if_pos (by decide +kernel)]; kernel_rfl) | (rw [if_neg (by decide +kernel)]; exact ⟨rfl, rfl⟩))
    (fun os started H enc _ => actRight_lifted os started H enc)
end Go.Proofs.YtbfefocehnafgaaGreat.B
namespace Go.Proofs.YtbfefocehnafgaaGreat
theorem actRight_holds : Rows.ActRightSaid := B.actRight_over
#print axioms actRight_holds
end Go.Proofs.YtbfefocehnafgaaGreat

