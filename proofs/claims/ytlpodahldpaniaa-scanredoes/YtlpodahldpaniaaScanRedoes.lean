/- ScanRedoes holds: scan.Redo answers what the reference answers, errors too, whatever it is handed. -/
import Derived.Test.YtlpodahldpaniaaScan6
namespace Go.Proofs.Ytlpodahldpaniaa.B
set_option maxRecDepth 100000
open Go.ChangeShapes Go.WideShapes Go.ChangeAt Go.RowKit

set_option maxHeartbeats 16000000 in
theorem scanRedoes_go (w : World) (p q r : Pg) (a : Option Addr) (len cap : Nat) (l : List Rc) (safe : Int) (h : LogIn w a len cap l) :
    Calls Try.prog 4 #[wdVal p q r (.slice a len cap) safe] w fun e w' => e = .returned (.bool true) ∧ Ext w w' := by
  have H1 := fun w' (e : Ext w w') => redo_any p q r a len cap l safe w' (h.ext e)
  have H2 := fun w' (e : Ext w w') => redoOf_any p q r a len cap l safe w' (h.ext e)
  have hl : (redoAns p q r l safe).1.length = 12 := by
    unfold redoAns
    split
    · rw [redoR_len]; rfl
    · simp
  generalize redoAns p q r l safe = ra at *
  obtain ⟨qs, d⟩ := ra
  dsimp only at hl H1 H2
  obtain ⟨x0, x1, x2, x3, x4, x5, x6, x7, x8, x9, x10, x11, rfl⟩ := list12 qs hl
  rw [show ints [x0, x1, x2, x3, x4, x5, x6, x7, x8, x9, x10, x11] = #[.int .i64 x0, .int .i64 x1, .int .i64 x2, .int .i64 x3, .int .i64 x4, .int .i64 x5, .int .i64 x6, .int .i64 x7, .int .i64 x8, .int .i64 x9, .int .i64 x10, .int .i64 x11] from rfl] at H1 H2
  generalize redoErr p q r l safe = x at *
  have E0 := (Ext.refl w).alloc (.cells (wdCells p q r (.slice a len cap) safe) 28)
  have B0 := Blk.new w w.heap.size (wdCells p q r (.slice a len cap) safe) 28 rfl
  have b0 := B0.cell
  go_enter Try.func4, Try.ntmps4
  go_wp2_with fail
  refine (H1 _ E0).mono ?_
  rintro e w1 ⟨rfl, hw⟩
  have o1 := hw.alloc (.cells #[.int .i64 x0, .int .i64 x1, .int .i64 x2, .int .i64 x3, .int .i64 x4, .int .i64 x5, .int .i64 x6, .int .i64 x7, .int .i64 x8, .int .i64 x9, .int .i64 x10, .int .i64 x11] 25)
  have X1 := Blk.new w1 w1.heap.size #[.int .i64 x0, .int .i64 x1, .int .i64 x2, .int .i64 x3, .int .i64 x4, .int .i64 x5, .int .i64 x6, .int .i64 x7, .int .i64 x8, .int .i64 x9, .int .i64 x10, .int .i64 x11] 25 rfl
  have E1 := E0.trans o1
  have B1 := B0.ext o1
  clear hw o1 b0 B0 E0 H1
  have b1 := B1.cell
  go_wp2_with fail
  refine (H2 _ E1).mono ?_
  rintro e w2 ⟨rfl, hw⟩
  have o2 := hw.alloc (.cells #[.int .i64 x0, .int .i64 x1, .int .i64 x2, .int .i64 x3, .int .i64 x4, .int .i64 x5, .int .i64 x6, .int .i64 x7, .int .i64 x8, .int .i64 x9, .int .i64 x10, .int .i64 x11] 25)
  have X2 := Blk.new w2 w2.heap.size #[.int .i64 x0, .int .i64 x1, .int .i64 x2, .int .i64 x3, .int .i64 x4, .int .i64 x5, .int .i64 x6, .int .i64 x7, .int .i64 x8, .int .i64 x9, .int .i64 x10, .int .i64 x11] 25 rfl
  have E2 := E1.trans o2
  replace X1 := X1.ext o2
  clear hw o2 b1 B1 E1 H2
  go_wp2_with fail
  refine (scanBegun_any _).mono ?_
  rintro e w3 ⟨rfl, hw⟩
  have E3 := E2.trans hw
  have x1c := (X1.ext hw).cell
  have x2c := (X2.ext hw).cell
  clear hw E2 X1 X2
  have e1 := eql_pages ⟨x0, x1, x2, x3⟩ ⟨x4, x5, x6, x7⟩ ⟨x8, x9, x10, x11⟩ ⟨x0, x1, x2, x3⟩ ⟨x4, x5, x6, x7⟩ ⟨x8, x9, x10, x11⟩
  rw [eqPg_refl, eqPg_refl, eqPg_refl] at e1
  dsimp only [val3] at e1
  have hb1 : (x == x) = true := by simp
  have hb2 : ((d : Int) == (d : Int)) = true := by simp
  go_wp2_with fail
  go_ret
  exact ⟨by simp, E3⟩

set_option maxRecDepth 100000 in
theorem scanRedoes_lifted (os : Os) (started : os.Started) (H : Type) (enc : TypeId × Value → H) :
    ReturnsInHanded {} Try.checked os 4 .any (Rows.scanRedoesSpec.pre6 enc Try.prog Try.f4 Rows.scanRedoesRow.domain false) (Rows.scanRedoesSpec.post enc Try.prog Try.f4 false true false false) := by
  refine returnsInHanded_of_change (C := Try.checked) own started (by kernel_rfl) Try.func4
    (ChangeSpec.witness6 (enc := enc) (C := Try.checked) false ⟨#[], #[.agg #[.int .i64 0, .int .i64 0, .int .i64 0, .int .i64 0, .int .i64 0, .int .i64 0, .int .i64 0, .int .i64 0, .int .i64 0, .int .i64 0, .int .i64 0, .int .i64 0, .slice none 0 0, .int .i64 0]], []⟩ 8 (by kernel_rfl) (by kernel_rfl) (by kernel_rfl) (by kernel_rfl)) ?_
  intro W base args ds gs before hval0 hW hcnd _
  have hval : ∀ (j : Nat) t v, Try.f4.params[j]? = some t → args[j]? = some v → Value.okWide Try.prog W .any base t v := hval0
  have hW' := hW
  obtain ⟨p, q, hA0, hV, rfl, hfz, hnd⟩ := hW
  have hA : DataW.TrodAll enc Try.prog W 0 (fun _ => true) true Try.f4.params.toList args.toList ds p := hA0
  rw [Try.params4] at hA hval
  obtain ⟨v0, vs0, d0, ds0, p0, q0, hargs, rfl, rfl, h0, r0⟩ := trodAll_cons hA
  obtain ⟨rfl, rfl, rfl⟩ := trodAll_nil r0
  obtain rfl : args = #[v0] := by cases args; simp_all
  obtain ⟨rfl, rfl⟩ := trodVars_none hV
  obtain ⟨P0, Q0, R0, x0, len0, cap0, l0, safe0, rfl, s0⟩ := open_wd (hval 0 28 v0 rfl rfl) h0
  clear hA0 hval0
  refine (scanRedoes_go W P0 Q0 R0 x0 len0 cap0 l0 safe0 s0).mono fun e W' ⟨he, bel⟩ => ?_
  subst he
  exact ⟨_, rfl, _, _, _, [], _, [], hW', trodAll_mk1 (shut_bool Try.underlying4 _),
    (trodAll_cons_mk (Below.trod laidOut (by kernel_rfl) (of_decide_eq_true (by kernel_rfl)) h0 bel (lt_of_trod h0))
    trodAll_mk0), rfl, bel.frame _, fun h => by cases h⟩

theorem scanRedoes_over : Rows.scanRedoesRow.holds Try.pinned (OpenSpec.ofChange Rows.scanRedoesSpec) :=
  OpenClaim.holds_of_wide 4 Try.f4 rfl rfl rfl rfl rfl rfl rfl ⟨rfl, rfl, rfl, rfl, rfl⟩ rfl rfl rfl rfl rfl (by kernel_rfl) Try.func4 (by kernel_rfl)
    (of_decide_eq_true (by kernel_rfl)) (by unfold Func.isWrapper; first | (rw [if_pos (by decide +kernel)]; kernel_rfl) | (rw [if_neg (by decide +kernel)]; exact ⟨rfl, rfl⟩))
    (fun os started H enc _ => scanRedoes_lifted os started H enc)
end Go.Proofs.Ytlpodahldpaniaa.B
namespace Go.Proofs.Ytlpodahldpaniaa
theorem scanRedoes_holds : Rows.ScanRedoesSaid := B.scanRedoes_over
#print axioms scanRedoes_holds
end Go.Proofs.Ytlpodahldpaniaa

