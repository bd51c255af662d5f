/- ActAlls holds: act.All answers as the reference's DoneOf, errors too, whatever it is handed. -/
import Derived.Test.YtbfefocehnafgaaGreatAct5
namespace Go.Proofs.YtbfefocehnafgaaGreat.B
set_option maxRecDepth 100000
open Go.ChangeShapes Go.WideShapes Go.ChangeAt Go.RowKit

set_option maxHeartbeats 8000000 in
theorem actAlls_go (w : World) (a : Option Addr) (len cap : Nat) (l : List Ac) (h : Acts w a len l ∧ len ≤ cap ∧ len ≤ maxLen) :
    Calls Tryz.prog 4 #[.slice a len cap] w fun e w' => e = .returned (.bool true) ∧ Ext w w' := by
  have H1 := fun W (e : Ext w W) => actAll_any a len cap l W (h.1.ext e) h.2.2
  have H2 := fun W (e : Ext w W) => doneOf_any a len cap l W (h.1.ext e) h.2.2
  have hm60 := allV_len l
  unfold DoN at H1 H2
  generalize allX l = x1 at *
  generalize allN l = n1 at *
  generalize allV l = V at *
  obtain ⟨p2, q2, r2, m, s2⟩ := V
  dsimp only at H1 H2 hm60
  have E0 := Ext.refl w
  go_enter Tryz.func4, Tryz.ntmps4
  go_wp2_with fail
  refine (H1 _ E0).mono ?_
  rintro e w1 ⟨hw, a1, cap1, rfl, L1⟩
  have o1 := (Ext.refl w1).alloc (.cells (wdCells p2 q2 r2 (.slice a1 m.length cap1) s2) 28)
  have X1 := Blk.new w1 w1.heap.size (wdCells p2 q2 r2 (.slice a1 m.length cap1) s2) 28 rfl
  have E1 := (E0.trans hw).trans o1
  have R1 := L1.ext o1
  clear hw o1 E0 H1 L1
  go_wp2_with fail
  refine (H2 _ E1).mono ?_
  rintro e w2 ⟨hw, a2, cap2, rfl, L2⟩
  have o2 := (Ext.refl w2).alloc (.cells (wdCells p2 q2 r2 (.slice a2 m.length cap2) s2) 28)
  have Y2 := Blk.new w2 w2.heap.size (wdCells p2 q2 r2 (.slice a2 m.length cap2) s2) 28 rfl
  have E2 := (E1.trans hw).trans o2
  have X2 := (X1.ext hw).ext o2
  have R2 := (R1.ext hw).ext o2
  have S2 := L2.ext o2
  clear hw o2 E1 H2 X1 R1 L2
  generalize w1.heap.size = bx at *
  go_wp2_with fail
  refine (actBegun_any _).mono ?_
  rintro e w3 ⟨rfl, hw⟩
  have E3 := E2.trans hw
  have R3 := R2.ext hw
  have S3 := S2.ext hw
  have x3 := (X2.ext hw).cell
  have y3 := (Y2.ext hw).cell
  clear hw E2 R2 S2 X2 Y2
  generalize w2.heap.size = by_ at *
  have hb1 : ((n1 : Int) == (n1 : Int)) = true := by simp
  have hb2 : (x1 == x1) = true := by simp
  go_wp2_with fail
  refine (sameWorlds_eq p2 q2 r2 s2 a1 a2 m.length cap1 cap2 m _ R3.recs S3.recs (by omega)).mono ?_
  rintro e wA ⟨rfl, hw⟩
  go_wp2_with fail
  go_ret
  exact ⟨by first | rfl | simp, E3.trans hw⟩

set_option maxRecDepth 100000 in
theorem actAlls_lifted (os : Os) (started : os.Started) (H : Type) (enc : TypeId × Value → H) :
    ReturnsInHanded {} Tryz.checked os 4 .any (Rows.actAllsSpec.pre6 enc Tryz.prog Tryz.f4 Rows.actAllsRow.domain false) (Rows.actAllsSpec.post enc Tryz.prog Tryz.f4 false true false false) := by
  refine returnsInHanded_of_change (C := Tryz.checked) own started (by kernel_rfl) Tryz.func4
    (ChangeSpec.witness6 (enc := enc) (C := Tryz.checked) false ⟨#[], #[.slice none 0 0], []⟩ 8 (by kernel_rfl) (by kernel_rfl) (by kernel_rfl) (by kernel_rfl)) ?_
  intro W base args ds gs before hval0 hW hcnd _
  have hval : ∀ (j : Nat) t v, Tryz.f4.params[j]? = some t → args[j]? = some v → Value.okWide Tryz.prog W .any base t v := hval0
  have hW' := hW
  obtain ⟨p, q, hA0, hV, rfl, hfz, hnd⟩ := hW
  have hA : DataW.TrodAll enc Tryz.prog W 0 (fun _ => true) true Tryz.f4.params.toList args.toList ds p := hA0
  rw [Tryz.params4] at hA hval
  obtain ⟨v0, vs0, d0, ds0, p0, q0, hargs, rfl, rfl, h0, r0⟩ := trodAll_cons hA
  obtain ⟨rfl, rfl, rfl⟩ := trodAll_nil r0
  obtain rfl : args = #[v0] := by cases args; simp_all
  obtain ⟨rfl, rfl⟩ := trodVars_none hV
  obtain ⟨x0, len0, cap0, l0, rfl, s0⟩ := open_acts (hval 0 37 v0 rfl rfl) h0
  clear hA0 hval0
  refine (actAlls_go W x0 len0 cap0 l0 s0).mono fun e W' ⟨he, bel⟩ => ?_
  subst he
  exact ⟨_, rfl, _, _, _, [], _, [], hW', trodAll_mk1 (shut_bool Tryz.underlying4 _),
    (trodAll_cons_mk (Below.trod laidOut (by kernel_rfl) (of_decide_eq_true (by kernel_rfl)) h0 bel (lt_of_trod h0))
    trodAll_mk0), rfl, bel.frame _, fun h => by cases h⟩

theorem actAlls_over : Rows.actAllsRow.holds Tryz.pinned (OpenSpec.ofChange Rows.actAllsSpec) :=
  OpenClaim.holds_of_wide 4 Tryz.f4 rfl rfl rfl rfl rfl rfl rfl ⟨rfl, rfl, rfl, rfl, rfl⟩ rfl rfl rfl rfl rfl (by kernel_rfl) Tryz.func4 (by kernel_rfl)
    (of_decide_eq_true (by kernel_rfl)) (by unfold Func.isWrapper; first | (rw [if_pos (by decide +kernel)]; kernel_rfl) | (rw [if_neg (by decide +kernel)]; exact ⟨rfl, rfl⟩))
    (fun os started H enc _ => actAlls_lifted os started H enc)
end Go.Proofs.YtbfefocehnafgaaGreat.B
namespace Go.Proofs.YtbfefocehnafgaaGreat
theorem actAlls_holds : Rows.ActAllsSaid := B.actAlls_over
#print axioms actAlls_holds
end Go.Proofs.YtbfefocehnafgaaGreat

