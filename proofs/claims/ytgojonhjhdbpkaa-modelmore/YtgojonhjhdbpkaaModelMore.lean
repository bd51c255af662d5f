/- ModelMore holds: what must be turns by a Commit alone; who has won stays so. -/
import Derived.Test.YtgojonhjhdbpkaaMod4
import Derived.Test.YtgojonhjhdbpkaaOpen2
import Derived.Test.YtgojonhjhdbpkaaChoose
namespace Go.Proofs.Ytgojonhjhdbpkaa.B
set_option maxRecDepth 100000
open Go.ChangeShapes Go.WideShapes Go.ChangeAt Go.RowKit

/-- What one record more does to what must be, and to who has won. -/
theorem more_step {l : List Rc} (hR : Right l) {n : Nat} (hn : n < l.length) : ∃ tl, winsR (l.take (n + 1)) = winsR (l.take n) ++ tl ∧ ((l[n].kind = 2 ∧ tl.length = 1) ∨ (l[n].kind ≠ 2 ∧ tl = [] ∧ cellsR (l.take (n + 1)) = cellsR (l.take n))) := by
  rw [winsR_take l n hn]
  have hR1 := right_pre hR (n + 1)
  rw [take_snoc l n hn] at hR1 ⊢
  obtain ⟨_, _, hf⟩ := (right_snoc _ _).1 hR1
  by_cases k : l[n].kind = 2
  · exact ⟨[l[n].txn], by rw [k]; rfl, Or.inl ⟨k, rfl⟩⟩
  · have hb : (l[n].kind == 2) = false := by simpa using k
    exact ⟨[], by rw [hb]; simp, Or.inr ⟨k, rfl, cellsR_other hf k⟩⟩
set_option maxHeartbeats 4000000 in
theorem modelMore_right (w : World) (a : Option Addr) (len cap : Nat) (l : List Rc) (hR : Recs w a len l) (hc : len ≤ cap) (h0 : logErr l = 0) (hpos : 0 < len) (c : Int) (bc : IntKind.i64.has c) :
    Calls Try.prog 11 #[.slice a len cap, .int .i64 c] w fun e w' => e = .returned (.bool true) ∧ Ext w w' := by
  obtain ⟨h60, hRt⟩ := logErr_zero h0
  have hlen := hR.len
  have hm60 : len ≤ 60 := by omega
  have hmx : len ≤ maxLen := by unfold maxLen; omega
  have hn := chooseN_lt c (n := len) hpos
  have HC := choose_any c len
  obtain ⟨tl, htl, hcase⟩ := more_step hRt (n := chooseN c len) (by omega)
  have hz1 := logErr_pre h0 (chooseN c len)
  have hz2 := logErr_pre h0 (chooseN c len + 1)
  have H1 := fun w' (e : Ext w w') => logCheck_any a len cap l w' (hR.ext e) hmx
  have H2 := fun w' (e : Ext w w') => cells_any a _ cap _ w' ((hR.ext e).take (chooseN c len) (by omega)) (by omega)
  have H3 := fun w' (e : Ext w w') => cells_any a _ cap _ w' ((hR.ext e).take (chooseN c len + 1) (by omega)) (by omega)
  have H4 := fun w' (e : Ext w w') => wins_any a _ cap _ w' ((hR.ext e).take (chooseN c len) (by omega)) (by omega)
  have H5 := fun w' (e : Ext w w') => wins_any a _ cap _ w' ((hR.ext e).take (chooseN c len + 1) (by omega)) (by omega)
  have HRec := fun w' (e : Ext w w') => (hR.ext e).at hn
  rw [h0] at H1
  rw [hz1, cellsOr_ok hz1] at H2
  rw [hz2, cellsOr_ok hz2] at H3
  rw [hz1, winsOr_ok hz1] at H4
  rw [hz2, winsOr_ok hz2, htl] at H5
  have hws : (winsR (l.take (chooseN c len))).length ≤ 60 := Nat.le_trans (winsR_le _) (by rw [List.length_take]; omega)
  obtain ⟨x0, x1, x2, x3, x4, x5, x6, x7, x8, hx⟩ := len9 (cellsR_len (l.take (chooseN c len)))
  obtain ⟨y0, y1, y2, y3, y4, y5, y6, y7, y8, hy⟩ := len9 (cellsR_len (l.take (chooseN c len + 1)))
  rw [hx] at H2
  rw [hy] at H3
  rw [hx, hy] at hcase
  clear hx hy htl hz1 hz2
  rw [show ints [x0, x1, x2, x3, x4, x5, x6, x7, x8] = #[.int .i64 x0, .int .i64 x1, .int .i64 x2, .int .i64 x3, .int .i64 x4, .int .i64 x5, .int .i64 x6, .int .i64 x7, .int .i64 x8] from rfl] at H2
  rw [show ints [y0, y1, y2, y3, y4, y5, y6, y7, y8] = #[.int .i64 y0, .int .i64 y1, .int .i64 y2, .int .i64 y3, .int .i64 y4, .int .i64 y5, .int .i64 y6, .int .i64 y7, .int .i64 y8] from rfl] at H3
  have htl1 : tl.length ≤ 1 := by rcases hcase with h | h; omega; rw [h.2.1]; simp
  have hkl : chooseN c len < l.length := by omega
  have HCase : Hid (∃ r : Rc, (∀ w', Ext w w' → ∃ b off, a = some ⟨b, off, none⟩ ∧ RecAt w' b (off + chooseN c len * 8) r) ∧ ((r.kind = 2 ∧ tl.length = 1) ∨ (r.kind ≠ 2 ∧ tl = [] ∧ [y0, y1, y2, y3, y4, y5, y6, y7, y8] = [x0, x1, x2, x3, x4, x5, x6, x7, x8]))) := ⟨l[chooseN c len], fun w' e => by obtain ⟨b, off, h1, _, h2⟩ := HRec w' e; exact ⟨b, off, h1, h2⟩, hcase⟩
  clear hcase HRec
  generalize winsR (l.take (chooseN c len)) = ws at *
  generalize chooseN c len = n at *
  have hn1 : n + 1 ≤ cap := by omega
  have hn0 : n ≤ cap := by omega
  have hb : ((len : Int) == 0) = false := by simp; omega
  rw [show (ws ++ tl).length = ws.length + tl.length from List.length_append] at H5
  go_enter Try.func11, Try.ntmps11
  go_wp2_with fail
  refine (H1 w (Ext.refl w)).mono ?_
  rintro e w1 ⟨rfl, E1⟩
  go_wp2_with fail
  refine (HC _ bc (by omega) (by omega)).mono ?_
  rintro e w2 ⟨rfl, rfl⟩
  go_wp2_with fail
  refine (H2 _ E1).mono ?_
  rintro e w3 ⟨rfl, hw⟩
  have P := Blk.new w3 w3.heap.size #[.int .i64 x0, .int .i64 x1, .int .i64 x2, .int .i64 x3, .int .i64 x4, .int .i64 x5, .int .i64 x6, .int .i64 x7, .int .i64 x8] 43 rfl
  have E3 := (E1.trans hw).alloc (.cells #[.int .i64 x0, .int .i64 x1, .int .i64 x2, .int .i64 x3, .int .i64 x4, .int .i64 x5, .int .i64 x6, .int .i64 x7, .int .i64 x8] 43)
  clear hw E1
  go_wp2_with fail
  refine (H3 _ E3).mono ?_
  rintro e w4 ⟨rfl, hw⟩
  replace P := (P.ext hw).alloc (.cells #[.int .i64 y0, .int .i64 y1, .int .i64 y2, .int .i64 y3, .int .i64 y4, .int .i64 y5, .int .i64 y6, .int .i64 y7, .int .i64 y8] 43)
  have C := Blk.new w4 w4.heap.size #[.int .i64 y0, .int .i64 y1, .int .i64 y2, .int .i64 y3, .int .i64 y4, .int .i64 y5, .int .i64 y6, .int .i64 y7, .int .i64 y8] 43 rfl
  have E4 := (E3.trans hw).alloc (.cells #[.int .i64 y0, .int .i64 y1, .int .i64 y2, .int .i64 y3, .int .i64 y4, .int .i64 y5, .int .i64 y6, .int .i64 y7, .int .i64 y8] 43)
  clear hw E3
  go_wp2_with fail
  refine (H4 _ E4).mono ?_
  rintro e w5 ⟨⟨a5, c5, rfl, hc5, I5⟩, hw⟩
  replace P := P.ext hw
  replace C := C.ext hw
  have E5 := E4.trans hw
  clear hw E4
  go_wp2_with fail
  refine (H5 _ E5).mono ?_
  rintro e w6 ⟨⟨a6, c6, rfl, hc6, I6⟩, hw⟩
  replace P := P.ext hw
  replace C := C.ext hw
  replace I5 := I5.ext hw
  have E6 := E5.trans hw
  clear hw E5 H1 H2 H3 H4 H5 HC
  have hlt1 : ¬ ((ws.length : Int) + (tl.length : Int) < (ws.length : Int)) := by omega
  have hc6' : ws.length ≤ c6 := by omega
  go_wp2_with fail
  refine (sameInts_eq _ _ a6 a5 c6 c5 ws _ I6.pre I5 (by omega)).mono ?_
  rintro e w7 ⟨rfl, hw⟩
  replace P := P.ext hw
  replace C := C.ext hw
  have E7 := E6.trans hw
  clear hw E6
  go_wp2_with fail
  refine (modelBegun_any _).mono ?_
  rintro e w8 ⟨rfl, hw⟩
  replace P := P.ext hw
  replace C := C.ext hw
  have E8 := E7.trans hw
  clear hw E7
  obtain ⟨r, hrec, hcase⟩ := HCase.out
  obtain ⟨b, off, rfl, h0, h1, h2, h3, h4, h5, h6, h7⟩ := hrec _ E8
  clear hrec HCase hR
  have p := P.cell
  have cc := C.cell
  rcases hcase with ⟨k, ht⟩ | ⟨k, ht, he⟩
  · rw [ht]
    have k1 : (r.kind == 2) = true := by simpa using k
    have k2 : (r.kind != 2) = false := by simpa using k
    have q1 : ((ws.length : Int) + ((1 : Nat) : Int) == (ws.length : Int) + 1) = true := by simp
    clear k
    go_wp2_with fail
    go_ret
    exact ⟨by simp, E8⟩
  · subst ht
    have k1 : (r.kind == 2) = false := by simpa using k
    have k2 : (r.kind != 2) = true := by simpa using k
    clear k
    injection he with g0 he
    injection he with g1 he
    injection he with g2 he
    injection he with g3 he
    injection he with g4 he
    injection he with g5 he
    injection he with g6 he
    injection he with g7 he
    injection he with g8 he
    clear he
    subst g0 g1 g2 g3 g4 g5 g6 g7 g8
    have e1 := eql_cells y0 y1 y2 y3 y4 y5 y6 y7 y8
    have q1 : ((ws.length : Int) == (ws.length : Int) + ((0 : Nat) : Int)) = true := by simp
    rw [List.length_nil]
    go_wp2_with fail
    go_ret
    exact ⟨by simp, E8⟩
set_option maxHeartbeats 2000000 in
theorem modelMore_go (w : World) (a : Option Addr) (len cap : Nat) (l : List Rc) (h : Recs w a len l ∧ len ≤ cap ∧ len ≤ maxLen) (c : Int) (bc : IntKind.i64.has c) :
    Calls Try.prog 11 #[.slice a len cap, .int .i64 c] w fun e w' => e = .returned (.bool true) ∧ Ext w w' := by
  obtain ⟨hR, hc, hm⟩ := h
  have H1 := fun w' (e : Ext w w') => logCheck_any a len cap l w' (hR.ext e) hm
  by_cases h0 : logErr l = 0
  · by_cases hp : 0 < len
    · exact modelMore_right w a len cap l hR hc h0 hp c bc
    · have hz : len = 0 := by omega
      subst hz
      rw [h0] at H1
      go_enter Try.func11, Try.ntmps11
      go_wp2_with fail
      refine (H1 w (Ext.refl w)).mono ?_
      rintro e w1 ⟨rfl, E1⟩
      go_wp2_with fail
      refine (modelBegun_any _).mono ?_
      rintro e w3 ⟨rfl, hw3⟩
      go_wp2_with fail
      go_ret
      exact ⟨rfl, E1.trans hw3⟩
  · have hb : (logErr l != 0) = true := by simpa using h0
    generalize logErr l = x at *
    go_enter Try.func11, Try.ntmps11
    go_wp2_with fail
    refine (H1 w (Ext.refl w)).mono ?_
    rintro e w1 ⟨rfl, E1⟩
    go_wp2_with fail
    refine (modelBegun_any _).mono ?_
    rintro e w3 ⟨rfl, hw3⟩
    go_wp2_with fail
    go_ret
    exact ⟨rfl, E1.trans hw3⟩

set_option maxRecDepth 100000 in
theorem modelMore_lifted (os : Os) (started : os.Started) (H : Type) (enc : TypeId × Value → H) :
    ReturnsInHanded {} Try.checked os 11 .any (Rows.modelMoreSpec.pre6 enc Try.prog Try.f11 Rows.modelMoreRow.domain false) (Rows.modelMoreSpec.post enc Try.prog Try.f11 false true false false) := by
  refine returnsInHanded_of_change (C := Try.checked) own started (by kernel_rfl) Try.func11
    (ChangeSpec.witness6 (enc := enc) (C := Try.checked) false ⟨#[], #[.slice none 0 0, .int .i64 0], []⟩ 8 (by kernel_rfl) (by kernel_rfl) (by kernel_rfl) (by kernel_rfl)) ?_
  intro W base args ds gs before hval0 hW hcnd _
  have hval : ∀ (j : Nat) t v, Try.f11.params[j]? = some t → args[j]? = some v → Value.okWide Try.prog W .any base t v := hval0
  have hW' := hW
  obtain ⟨p, q, hA0, hV, rfl, hfz, hnd⟩ := hW
  have hA : DataW.TrodAll enc Try.prog W 0 (fun _ => true) true Try.f11.params.toList args.toList ds p := hA0
  rw [Try.params11] at hA hval
  obtain ⟨v0, vs0, d0, ds0, p0, q0, hargs, rfl, rfl, h0, r0⟩ := trodAll_cons hA
  obtain ⟨v1, vs1, d1, ds1, p1, q1, rfl, rfl, rfl, h1, r1⟩ := trodAll_cons r0
  obtain ⟨rfl, rfl, rfl⟩ := trodAll_nil r1
  obtain rfl : args = #[v0, v1] := by cases args; simp_all
  obtain ⟨rfl, rfl⟩ := trodVars_none hV
  obtain ⟨x0, len0, cap0, l0, rfl, s0⟩ := open_recs (hval 0 22 v0 rfl rfl) h0
  obtain ⟨a1, rfl, b1⟩ := open_num (hval 1 3 v1 rfl rfl)
  clear hA0 hval0
  refine (modelMore_go W x0 len0 cap0 l0 s0 a1 b1).mono fun e W' ⟨he, bel⟩ => ?_
  subst he
  exact ⟨_, rfl, _, _, _, [], _, [], hW', trodAll_mk1 (shut_bool Try.underlying4 _),
    (trodAll_cons_mk (Below.trod laidOut (by kernel_rfl) (of_decide_eq_true (by kernel_rfl)) h0 bel (lt_of_trod h0))
    (trodAll_cons_mk (Below.trod laidOut (by kernel_rfl) (of_decide_eq_true (by kernel_rfl)) h1 bel (lt_of_trod h1))
    trodAll_mk0)), rfl, bel.frame _, fun h => by cases h⟩

theorem modelMore_over : Rows.modelMoreRow.holds Try.pinned (OpenSpec.ofChange Rows.modelMoreSpec) :=
  OpenClaim.holds_of_wide 11 Try.f11 rfl rfl rfl rfl rfl rfl rfl ⟨rfl, rfl, rfl, rfl, rfl⟩ rfl rfl rfl rfl rfl (by kernel_rfl) Try.func11 (by kernel_rfl)
    (of_decide_eq_true (by kernel_rfl)) (by unfold Func.isWrapper; first | (rw [if_pos (by decide +kernel)]; kernel_rfl) | (rw [if_neg (by decide +kernel)]; exact ⟨rfl, rfl⟩))
    (fun os started H enc _ => modelMore_lifted os started H enc)
end Go.Proofs.Ytgojonhjhdbpkaa.B
namespace Go.Proofs.Ytgojonhjhdbpkaa
theorem modelMore_holds : Rows.ModelMoreSaid := B.modelMore_over
#print axioms modelMore_holds
end Go.Proofs.Ytgojonhjhdbpkaa

