/- LogPages holds: log.Pages answers what the reference answers, errors too, whatever it is handed. -/
import Derived.Test.YtgojonhjhdbpkaaLogL2
import Derived.Test.YtgojonhjhdbpkaaOpen2
namespace Go.Proofs.Ytgojonhjhdbpkaa.B
set_option maxRecDepth 100000
open Go.ChangeShapes Go.WideShapes Go.ChangeAt Go.RowKit

set_option maxHeartbeats 1000000 in
set_option maxRecDepth 100000 in
theorem logPages_go (w : World) (a : Option Addr) (len cap : Nat) (l : List Rc) (h : Recs w a len l ∧ len ≤ cap ∧ len ≤ maxLen) :
    Calls Try.prog 4 #[.slice a len cap] w fun e w' => e = .returned (.bool true) ∧ Ext w w' := by
  obtain ⟨hR, hc, hm⟩ := h
  have H1 := fun w' (e : Ext w w') => logPages_any a len cap l w' (hR.ext e) hm
  have H2 := fun w' (e : Ext w w') => pagesOf_any a len cap l w' (hR.ext e) hc hm
  have hl : (pagesOrNone l).length = 12 := by unfold pagesOrNone; split; exact pagesR_len l; rfl
  obtain ⟨a0, a1, a2, a3, a4, a5, a6, a7, a8, a9, a10, a11, hps⟩ := list12 _ hl
  rw [hps] at H1 H2
  clear hps hl
  have hq : ints [a0, a1, a2, a3, a4, a5, a6, a7, a8, a9, a10, a11] = #[.int .i64 a0, .int .i64 a1, .int .i64 a2, .int .i64 a3, .int .i64 a4, .int .i64 a5, .int .i64 a6, .int .i64 a7, .int .i64 a8, .int .i64 a9, .int .i64 a10, .int .i64 a11] := rfl
  rw [hq] at H1 H2
  clear hq
  generalize logErr l = x at *
  go_enter Try.func4, Try.ntmps4
  go_wp2_with fail
  refine (H1 w (Ext.refl w)).mono ?_
  rintro e w1 ⟨rfl, hw1⟩
  have P := Blk.new w1 w1.heap.size #[.int .i64 a0, .int .i64 a1, .int .i64 a2, .int .i64 a3, .int .i64 a4, .int .i64 a5, .int .i64 a6, .int .i64 a7, .int .i64 a8, .int .i64 a9, .int .i64 a10, .int .i64 a11] 30 rfl
  have E1 := hw1.alloc (.cells #[.int .i64 a0, .int .i64 a1, .int .i64 a2, .int .i64 a3, .int .i64 a4, .int .i64 a5, .int .i64 a6, .int .i64 a7, .int .i64 a8, .int .i64 a9, .int .i64 a10, .int .i64 a11] 30)
  go_wp2_with fail
  refine (H2 _ E1).mono ?_
  rintro e w2 ⟨rfl, hw2⟩
  have E2 := E1.trans hw2
  replace P := P.ext hw2
  have C := Blk.new w2 w2.heap.size #[.int .i64 a0, .int .i64 a1, .int .i64 a2, .int .i64 a3, .int .i64 a4, .int .i64 a5, .int .i64 a6, .int .i64 a7, .int .i64 a8, .int .i64 a9, .int .i64 a10, .int .i64 a11] 30 rfl
  replace P := P.alloc (.cells #[.int .i64 a0, .int .i64 a1, .int .i64 a2, .int .i64 a3, .int .i64 a4, .int .i64 a5, .int .i64 a6, .int .i64 a7, .int .i64 a8, .int .i64 a9, .int .i64 a10, .int .i64 a11] 30)
  replace E2 := E2.alloc (.cells #[.int .i64 a0, .int .i64 a1, .int .i64 a2, .int .i64 a3, .int .i64 a4, .int .i64 a5, .int .i64 a6, .int .i64 a7, .int .i64 a8, .int .i64 a9, .int .i64 a10, .int .i64 a11] 30)
  go_wp2_with fail
  refine (logBegun_any _).mono ?_
  rintro e w3 ⟨rfl, hw3⟩
  replace P := P.ext hw3
  replace C := C.ext hw3
  have E3 := E2.trans hw3
  have p := P.cell
  have c := C.cell
  have e1 : ∀ d w, (Op.equalIn (d + 4) 30 (.agg #[.int .i64 a0, .int .i64 a1, .int .i64 a2, .int .i64 a3, .int .i64 a4, .int .i64 a5, .int .i64 a6, .int .i64 a7, .int .i64 a8, .int .i64 a9, .int .i64 a10, .int .i64 a11]) (.agg #[.int .i64 a0, .int .i64 a1, .int .i64 a2, .int .i64 a3, .int .i64 a4, .int .i64 a5, .int .i64 a6, .int .i64 a7, .int .i64 a8, .int .i64 a9, .int .i64 a10, .int .i64 a11])).run Try.prog w = .ok true w := fun d w => by
    have := eq_pages d w ⟨a0, a1, a2, a3⟩ ⟨a4, a5, a6, a7⟩ ⟨a8, a9, a10, a11⟩ ⟨a0, a1, a2, a3⟩ ⟨a4, a5, a6, a7⟩ ⟨a8, a9, a10, a11⟩
    rw [eqPg_refl, eqPg_refl, eqPg_refl] at this
    exact this
  have e2 := e1 9996
  clear e1
  go_wp2_with fail
  go_ret
  exact ⟨rfl, E3⟩

set_option maxRecDepth 100000 in
theorem logPages_lifted (os : Os) (started : os.Started) (H : Type) (enc : TypeId × Value → H) :
    ReturnsInHanded {} Try.checked os 4 .any (Rows.logPagesSpec.pre6 enc Try.prog Try.f4 Rows.logPagesRow.domain false) (Rows.logPagesSpec.post enc Try.prog Try.f4 false true false false) := by
  refine returnsInHanded_of_change (C := Try.checked) own started (by kernel_rfl) Try.func4
    (ChangeSpec.witness6 (enc := enc) (C := Try.checked) false ⟨#[], #[.slice none 0 0], []⟩ 8 (by kernel_rfl) (by kernel_rfl) (by kernel_rfl) (by kernel_rfl)) ?_
  intro W base args ds gs before hval0 hW hcnd _
  have hval : ∀ (j : Nat) t v, Try.f4.params[j]? = some t → args[j]? = some v → Value.okWide Try.prog W .any base t v := hval0
  have hW' := hW
  obtain ⟨p, q, hA0, hV, rfl, hfz, hnd⟩ := hW
  have hA : DataW.TrodAll enc Try.prog W 0 (fun _ => true) true Try.f4.params.toList args.toList ds p := hA0
  rw [Try.params4] at hA hval
  obtain ⟨v0, vs0, d0, ds0, p0, q0, hargs, rfl, rfl, h0, r0⟩ := trodAll_cons hA
  obtain ⟨rfl, rfl, rfl⟩ := trodAll_nil r0
  obtain rfl : args = #[v0] := by cases args; simp_all
  obtain ⟨rfl, rfl⟩ := trodVars_none hV
  obtain ⟨x0, len0, cap0, l0, rfl, s0⟩ := open_recs (hval 0 22 v0 rfl rfl) h0
  clear hA0 hval0
  refine (logPages_go W x0 len0 cap0 l0 s0).mono fun e W' ⟨he, bel⟩ => ?_
  subst he
  exact ⟨_, rfl, _, _, _, [], _, [], hW', trodAll_mk1 (shut_bool Try.underlying4 _),
    (trodAll_cons_mk (Below.trod laidOut (by kernel_rfl) (of_decide_eq_true (by kernel_rfl)) h0 bel (lt_of_trod h0))
    trodAll_mk0), rfl, bel.frame _, fun h => by cases h⟩

theorem logPages_over : Rows.logPagesRow.holds Try.pinned (OpenSpec.ofChange Rows.logPagesSpec) :=
  OpenClaim.holds_of_wide 4 Try.f4 rfl rfl rfl rfl rfl rfl rfl ⟨rfl, rfl, rfl, rfl, rfl⟩ rfl rfl rfl rfl rfl (by kernel_rfl) Try.func4 (by kernel_rfl)
    (of_decide_eq_true (by kernel_rfl)) (by unfold Func.isWrapper; first | (rw [if_pos (by decide +kernel)]; kernel_rfl) | (rw [if_neg (by decide +kernel)]; exact ⟨rfl, rfl⟩))
    (fun os started H enc _ => logPages_lifted os started H enc)
end Go.Proofs.Ytgojonhjhdbpkaa.B
namespace Go.Proofs.Ytgojonhjhdbpkaa
theorem logPages_holds : Rows.LogPagesSaid := B.logPages_over
#print axioms logPages_holds
end Go.Proofs.Ytgojonhjhdbpkaa

