/- WorldTells holds: world.Check and world.Now answer what the reference answers, errors too, whatever they are handed. -/
import Derived.Test.YtgojonhjhdbpkaaDesk4
import Derived.Test.YtgojonhjhdbpkaaOpenW
namespace Go.Proofs.Ytgojonhjhdbpkaa.B
set_option maxRecDepth 100000
open Go.ChangeShapes Go.WideShapes Go.ChangeAt Go.RowKit

set_option maxHeartbeats 4000000 in
theorem worldTells_go (w : World) (p q r : Pg) (a : Option Addr) (len cap : Nat) (l : List Rc) (safe : Int) (h : LogIn w a len cap l) :
    Calls Try.prog 12 #[wdVal p q r (.slice a len cap) safe] w fun e w' => e = .returned (.bool true) ∧ Ext w w' := by
  have H1 := fun w' (e : Ext w w') => now_any p q r a len cap l safe w' (h.recs.ext e) h.nil h.max
  have H2 := fun w' (e : Ext w w') => nowOf_any p q r a len cap l safe w' (h.recs.ext e) h.le h.max
  have H3 := fun w' (e : Ext w w') => worldCheck_any p q r a len cap l safe w' (h.recs.ext e) h.nil h.max
  have H4 := fun w' (e : Ext w w') => worldError_any p q r a len cap l safe w' (h.recs.ext e) h.le h.max
  have hl : (nowOr p q r l safe).length = 12 := by unfold nowOr; split; exact pagesR_len l; rfl
  obtain ⟨a0, a1, a2, a3, a4, a5, a6, a7, a8, a9, a10, a11, hps⟩ := list12 _ hl
  rw [hps] at H1 H2
  clear hps hl h
  rw [show ints [a0, a1, a2, a3, a4, a5, a6, a7, a8, a9, a10, a11] = #[.int .i64 a0, .int .i64 a1, .int .i64 a2, .int .i64 a3, .int .i64 a4, .int .i64 a5, .int .i64 a6, .int .i64 a7, .int .i64 a8, .int .i64 a9, .int .i64 a10, .int .i64 a11] from rfl] at H1 H2
  generalize worldErr p q r l safe = we at *
  have E0 := (Ext.refl w).alloc (.cells (wdCells p q r (.slice a len cap) safe) 51)
  have B0 := Blk.new w w.heap.size (wdCells p q r (.slice a len cap) safe) 51 rfl
  have b0 := B0.cell
  go_enter Try.func12, Try.ntmps12
  go_wp2_with fail
  refine (H1 _ E0).mono ?_
  rintro e w1 ⟨rfl, hw⟩
  have P := Blk.new w1 w1.heap.size #[.int .i64 a0, .int .i64 a1, .int .i64 a2, .int .i64 a3, .int .i64 a4, .int .i64 a5, .int .i64 a6, .int .i64 a7, .int .i64 a8, .int .i64 a9, .int .i64 a10, .int .i64 a11] 30 rfl
  replace B0 := (B0.ext hw).alloc (.cells #[.int .i64 a0, .int .i64 a1, .int .i64 a2, .int .i64 a3, .int .i64 a4, .int .i64 a5, .int .i64 a6, .int .i64 a7, .int .i64 a8, .int .i64 a9, .int .i64 a10, .int .i64 a11] 30)
  have E1 := (E0.trans hw).alloc (.cells #[.int .i64 a0, .int .i64 a1, .int .i64 a2, .int .i64 a3, .int .i64 a4, .int .i64 a5, .int .i64 a6, .int .i64 a7, .int .i64 a8, .int .i64 a9, .int .i64 a10, .int .i64 a11] 30)
  clear hw E0 b0
  have b1 := B0.cell
  go_wp2_with fail
  refine (H2 _ E1).mono ?_
  rintro e w2 ⟨rfl, hw⟩
  replace P := (P.ext hw).alloc (.cells #[.int .i64 a0, .int .i64 a1, .int .i64 a2, .int .i64 a3, .int .i64 a4, .int .i64 a5, .int .i64 a6, .int .i64 a7, .int .i64 a8, .int .i64 a9, .int .i64 a10, .int .i64 a11] 30)
  have C := Blk.new w2 w2.heap.size #[.int .i64 a0, .int .i64 a1, .int .i64 a2, .int .i64 a3, .int .i64 a4, .int .i64 a5, .int .i64 a6, .int .i64 a7, .int .i64 a8, .int .i64 a9, .int .i64 a10, .int .i64 a11] 30 rfl
  replace B0 := (B0.ext hw).alloc (.cells #[.int .i64 a0, .int .i64 a1, .int .i64 a2, .int .i64 a3, .int .i64 a4, .int .i64 a5, .int .i64 a6, .int .i64 a7, .int .i64 a8, .int .i64 a9, .int .i64 a10, .int .i64 a11] 30)
  have E2 := (E1.trans hw).alloc (.cells #[.int .i64 a0, .int .i64 a1, .int .i64 a2, .int .i64 a3, .int .i64 a4, .int .i64 a5, .int .i64 a6, .int .i64 a7, .int .i64 a8, .int .i64 a9, .int .i64 a10, .int .i64 a11] 30)
  clear hw E1 b1 H1 H2
  have e1 := eqn_pages ⟨a0, a1, a2, a3⟩ ⟨a4, a5, a6, a7⟩ ⟨a8, a9, a10, a11⟩
  dsimp only [val3] at e1
  go_wp2_with fail
  refine wp_region_calm (by kernel_rfl) (by kernel_rfl) (fun F hF => ?_)
  have bc := hF.cell B0
  have pc := hF.cell P
  have cc := hF.cell C
  have HC1 : Hid (∀ y, Calls Try.prog 34 #[] (F y) fun e w' => e = .returned (.bool true) ∧ Ext (F y) w') := fun y => worldBegun_any (F y)
  have HC2 : Hid (∀ y, Calls Try.prog 35 #[wdVal p q r (.slice a len cap) safe] (F y) fun e w' => e = .returned (.int .i64 we) ∧ Ext (F y) w') := fun y => H3 (F y) (E2.trans (hF.ext y))
  have HC3 : Hid (∀ y, Calls Try.prog 36 #[wdVal p q r (.slice a len cap) safe] (F y) fun e w' => e = .returned (.int .i64 we) ∧ Ext (F y) w') := fun y => H4 (F y) (E2.trans (hF.ext y))
  repeat (go_big_quiet_step (first | (go_at_call 34; exact hF.call (HC1.out _)) | (go_at_call 35; exact hF.call (HC2.out _)) | (go_at_call 36; exact hF.call (HC3.out _))))
  refine wpQuiet_nil ?_
  rintro _ ⟨v, rfl⟩
  go_wp2_with fail
  go_ret
  exact ⟨by simp, E2.trans (hF.ext v)⟩

set_option maxRecDepth 100000 in
theorem worldTells_lifted (os : Os) (started : os.Started) (H : Type) (enc : TypeId × Value → H) :
    ReturnsInHanded {} Try.checked os 12 .any (Rows.worldTellsSpec.pre6 enc Try.prog Try.f12 Rows.worldTellsRow.domain false) (Rows.worldTellsSpec.post enc Try.prog Try.f12 false true false false) := by
  refine returnsInHanded_of_change (C := Try.checked) own started (by kernel_rfl) Try.func12
    (ChangeSpec.witness6 (enc := enc) (C := Try.checked) false ⟨#[], #[.agg #[.int .i64 0, .int .i64 0, .int .i64 0, .int .i64 0, .int .i64 0, .int .i64 0, .int .i64 0, .int .i64 0, .int .i64 0, .int .i64 0, .int .i64 0, .int .i64 0, .slice none 0 0, .int .i64 0]], []⟩ 8 (by kernel_rfl) (by kernel_rfl) (by kernel_rfl) (by kernel_rfl)) ?_
  intro W base args ds gs before hval0 hW hcnd _
  have hval : ∀ (j : Nat) t v, Try.f12.params[j]? = some t → args[j]? = some v → Value.okWide Try.prog W .any base t v := hval0
  have hW' := hW
  obtain ⟨p, q, hA0, hV, rfl, hfz, hnd⟩ := hW
  have hA : DataW.TrodAll enc Try.prog W 0 (fun _ => true) true Try.f12.params.toList args.toList ds p := hA0
  rw [Try.params12] at hA hval
  obtain ⟨v0, vs0, d0, ds0, p0, q0, hargs, rfl, rfl, h0, r0⟩ := trodAll_cons hA
  obtain ⟨rfl, rfl, rfl⟩ := trodAll_nil r0
  obtain rfl : args = #[v0] := by cases args; simp_all
  obtain ⟨rfl, rfl⟩ := trodVars_none hV
  obtain ⟨P0, Q0, R0, x0, len0, cap0, l0, safe0, rfl, s0⟩ := open_wd (hval 0 51 v0 rfl rfl) h0
  clear hA0 hval0
  refine (worldTells_go W P0 Q0 R0 x0 len0 cap0 l0 safe0 s0).mono fun e W' ⟨he, bel⟩ => ?_
  subst he
  exact ⟨_, rfl, _, _, _, [], _, [], hW', trodAll_mk1 (shut_bool Try.underlying4 _),
    (trodAll_cons_mk (Below.trod laidOut (by kernel_rfl) (of_decide_eq_true (by kernel_rfl)) h0 bel (lt_of_trod h0))
    trodAll_mk0), rfl, bel.frame _, fun h => by cases h⟩

theorem worldTells_over : Rows.worldTellsRow.holds Try.pinned (OpenSpec.ofChange Rows.worldTellsSpec) :=
  OpenClaim.holds_of_wide 12 Try.f12 rfl rfl rfl rfl rfl rfl rfl ⟨rfl, rfl, rfl, rfl, rfl⟩ rfl rfl rfl rfl rfl (by kernel_rfl) Try.func12 (by kernel_rfl)
    (of_decide_eq_true (by kernel_rfl)) (by unfold Func.isWrapper; first | (rw [if_pos (by decide +kernel)]; kernel_rfl) | (rw [if_neg (by decide +kernel)]; exact ⟨rfl, rfl⟩))
    (fun os started H enc _ => worldTells_lifted os started H enc)
end Go.Proofs.Ytgojonhjhdbpkaa.B
namespace Go.Proofs.Ytgojonhjhdbpkaa
theorem worldTells_holds : Rows.WorldTellsSaid := B.worldTells_over
#print axioms worldTells_holds
end Go.Proofs.Ytgojonhjhdbpkaa

