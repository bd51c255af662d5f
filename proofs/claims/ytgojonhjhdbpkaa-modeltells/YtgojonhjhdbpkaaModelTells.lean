/- ModelTells holds: model.Cells and model.Wins answer what the reference answers, errors too, whatever they are handed. -/
import Derived.Test.YtgojonhjhdbpkaaMod4
import Derived.Test.YtgojonhjhdbpkaaOpen2
namespace Go.Proofs.Ytgojonhjhdbpkaa.B
set_option maxRecDepth 100000
open Go.ChangeShapes Go.WideShapes Go.ChangeAt Go.RowKit

set_option maxHeartbeats 2000000 in
theorem modelTells_go (w : World) (a : Option Addr) (len cap : Nat) (l : List Rc) (h : Recs w a len l ∧ len ≤ cap ∧ len ≤ maxLen) :
    Calls Try.prog 9 #[.slice a len cap] w fun e w' => e = .returned (.bool true) ∧ Ext w w' := by
  obtain ⟨hR, hc, hm⟩ := h
  have H1 := fun w' (e : Ext w w') => cells_any a len cap l w' (hR.ext e) hm
  have H2 := fun w' (e : Ext w w') => wins_any a len cap l w' (hR.ext e) hm
  have H3 := fun w' (e : Ext w w') => cellsOf_any a len cap l w' (hR.ext e) hc hm
  have H4 := fun w' (e : Ext w w') => winsOf_any a len cap l w' (hR.ext e) hc hm
  have hwl : (winsOr l).length ≤ 1000 := by
    unfold winsOr
    split
    · rename_i hz
      have := (logErr_zero hz).1
      exact Nat.le_trans (winsR_le l) (by omega)
    · simp
  obtain ⟨x0, x1, x2, x3, x4, x5, x6, x7, x8, hps⟩ := len9 (cellsOr_len l)
  rw [hps] at H1 H3
  clear hps
  rw [show ints [x0, x1, x2, x3, x4, x5, x6, x7, x8] = #[.int .i64 x0, .int .i64 x1, .int .i64 x2, .int .i64 x3, .int .i64 x4, .int .i64 x5, .int .i64 x6, .int .i64 x7, .int .i64 x8] from rfl] at H1 H3
  generalize logErr l = x at *
  generalize winsOr l = wo at *
  go_enter Try.func9, Try.ntmps9
  go_wp2_with fail
  refine (H1 w (Ext.refl w)).mono ?_
  rintro e w1 ⟨rfl, hw1⟩
  have P := Blk.new w1 w1.heap.size #[.int .i64 x0, .int .i64 x1, .int .i64 x2, .int .i64 x3, .int .i64 x4, .int .i64 x5, .int .i64 x6, .int .i64 x7, .int .i64 x8] 43 rfl
  have E1 := hw1.alloc (.cells #[.int .i64 x0, .int .i64 x1, .int .i64 x2, .int .i64 x3, .int .i64 x4, .int .i64 x5, .int .i64 x6, .int .i64 x7, .int .i64 x8] 43)
  go_wp2_with fail
  refine (H2 _ E1).mono ?_
  rintro e w2 ⟨⟨a2, c2, rfl, _, I2⟩, hw⟩
  have E2 := E1.trans hw
  replace P := P.ext hw
  clear E1 hw hw1
  go_wp2_with fail
  refine (H3 _ E2).mono ?_
  rintro e w3 ⟨rfl, hw⟩
  have E3 := E2.trans hw
  replace P := P.ext hw
  replace I2 := I2.ext hw
  clear E2 hw
  have C := Blk.new w3 w3.heap.size #[.int .i64 x0, .int .i64 x1, .int .i64 x2, .int .i64 x3, .int .i64 x4, .int .i64 x5, .int .i64 x6, .int .i64 x7, .int .i64 x8] 43 rfl
  replace P := P.alloc (.cells #[.int .i64 x0, .int .i64 x1, .int .i64 x2, .int .i64 x3, .int .i64 x4, .int .i64 x5, .int .i64 x6, .int .i64 x7, .int .i64 x8] 43)
  replace I2 := I2.ext ((Ext.refl w3).alloc (.cells #[.int .i64 x0, .int .i64 x1, .int .i64 x2, .int .i64 x3, .int .i64 x4, .int .i64 x5, .int .i64 x6, .int .i64 x7, .int .i64 x8] 43))
  replace E3 := E3.alloc (.cells #[.int .i64 x0, .int .i64 x1, .int .i64 x2, .int .i64 x3, .int .i64 x4, .int .i64 x5, .int .i64 x6, .int .i64 x7, .int .i64 x8] 43)
  go_wp2_with fail
  refine (H4 _ E3).mono ?_
  rintro e w4 ⟨⟨a4, c4, rfl, _, I4⟩, hw⟩
  have E4 := E3.trans hw
  replace P := P.ext hw
  replace C := C.ext hw
  replace I2 := I2.ext hw
  clear E3 hw
  go_wp2_with fail
  refine (modelBegun_any _).mono ?_
  rintro e w5 ⟨rfl, hw⟩
  have E5 := E4.trans hw
  replace P := P.ext hw
  replace C := C.ext hw
  replace I2 := I2.ext hw
  replace I4 := I4.ext hw
  clear E4 hw H1 H2 H3 H4
  have p := P.cell
  have c := C.cell
  have e1 := eql_cells x0 x1 x2 x3 x4 x5 x6 x7 x8
  go_wp2_with fail
  refine (sameInts_eq _ _ a2 a4 c2 c4 wo _ I2 I4 hwl).mono ?_
  rintro e w6 ⟨rfl, hw⟩
  go_wp2_with fail
  go_ret
  exact ⟨by simp, E5.trans hw⟩

set_option maxRecDepth 100000 in
theorem modelTells_lifted (os : Os) (started : os.Started) (H : Type) (enc : TypeId × Value → H) :
    ReturnsInHanded {} Try.checked os 9 .any (Rows.modelTellsSpec.pre6 enc Try.prog Try.f9 Rows.modelTellsRow.domain false) (Rows.modelTellsSpec.post enc Try.prog Try.f9 false true false false) := by
  refine returnsInHanded_of_change (C := Try.checked) own started (by kernel_rfl) Try.func9
    (ChangeSpec.witness6 (enc := enc) (C := Try.checked) false ⟨#[], #[.slice none 0 0], []⟩ 8 (by kernel_rfl) (by kernel_rfl) (by kernel_rfl) (by kernel_rfl)) ?_
  intro W base args ds gs before hval0 hW hcnd _
  have hval : ∀ (j : Nat) t v, Try.f9.params[j]? = some t → args[j]? = some v → Value.okWide Try.prog W .any base t v := hval0
  have hW' := hW
  obtain ⟨p, q, hA0, hV, rfl, hfz, hnd⟩ := hW
  have hA : DataW.TrodAll enc Try.prog W 0 (fun _ => true) true Try.f9.params.toList args.toList ds p := hA0
  rw [Try.params9] at hA hval
  obtain ⟨v0, vs0, d0, ds0, p0, q0, hargs, rfl, rfl, h0, r0⟩ := trodAll_cons hA
  obtain ⟨rfl, rfl, rfl⟩ := trodAll_nil r0
  obtain rfl : args = #[v0] := by cases args; simp_all
  obtain ⟨rfl, rfl⟩ := trodVars_none hV
  obtain ⟨x0, len0, cap0, l0, rfl, s0⟩ := open_recs (hval 0 22 v0 rfl rfl) h0
  clear hA0 hval0
  refine (modelTells_go W x0 len0 cap0 l0 s0).mono fun e W' ⟨he, bel⟩ => ?_
  subst he
  exact ⟨_, rfl, _, _, _, [], _, [], hW', trodAll_mk1 (shut_bool Try.underlying4 _),
    (trodAll_cons_mk (Below.trod laidOut (by kernel_rfl) (of_decide_eq_true (by kernel_rfl)) h0 bel (lt_of_trod h0))
    trodAll_mk0), rfl, bel.frame _, fun h => by cases h⟩

theorem modelTells_over : Rows.modelTellsRow.holds Try.pinned (OpenSpec.ofChange Rows.modelTellsSpec) :=
  OpenClaim.holds_of_wide 9 Try.f9 rfl rfl rfl rfl rfl rfl rfl ⟨rfl, rfl, rfl, rfl, rfl⟩ rfl rfl rfl rfl rfl (by kernel_rfl) Try.func9 (by kernel_rfl)
    (of_decide_eq_true (by kernel_rfl)) (by unfold Func.isWrapper; first | (rw [if_pos (by decide +kernel)]; kernel_rfl) | (rw [if_neg (by decide +kernel)]; exact ⟨rfl, rfl⟩))
    (fun os started H enc _ => modelTells_lifted os started H enc)
end Go.Proofs.Ytgojonhjhdbpkaa.B
namespace Go.Proofs.Ytgojonhjhdbpkaa
theorem modelTells_holds : Rows.ModelTellsSaid := B.modelTells_over
#print axioms modelTells_holds
end Go.Proofs.Ytgojonhjhdbpkaa

