/- WireBack holds: what is written is read as it was, and nothing else is read. -/
import Derived.Test.YtbfefocehnafgaaDoorWireL
namespace Go.Proofs.YtbfefocehnafgaaDoor.B
set_option maxRecDepth 100000
open Go.ChangeShapes Go.WideShapes Go.ChangeAt Go.RowKit

theorem run_txt_eql (s : List UInt8) (w : World) : (binOp .eql 9 (txt s) (txt s)).run Tryd.prog w = .ok (.bool true) w := by
  unfold binOp
  simp [Op.stringOp]
set_option maxHeartbeats 8000000 in
theorem wireBack_go (w : World) (p q r : Pg) (a : Option Addr) (len cap : Nat) (l : List Rc) (safe : Int) (h : LogIn w a len cap l) (s : List UInt8) (hs : s.length ≤ maxLen) (hE : Early w) :
    Calls Tryd.prog 4 #[wdVal p q r (.slice a len cap) safe, txt s] w fun e w' => e = .returned (.bool true) ∧ Ext w w' := by
  have hs := (show Hid (s.length ≤ maxLen) from hs)
  have hll := h.recs.len
  have H1 := fun W (e : Ext w W) => wireWrite_any p q r a len cap l safe W (h.ext e)
  have H2 : Hid (worldErr p q r l safe = 0 → len ≤ 60 ∧ ∀ W, Early W → Calls Tryd.prog 8 #[txt (wdBytes ⟨p, q, r, l, safe⟩)] W fun e w' => Ext W w' ∧ ∃ a cap, e = .returned (.tuple #[wdVal p q r (.slice a len cap) safe, .int .i64 0]) ∧ LogIn w' a len cap l) := fun hz => by
    have hn : (wdBytes ⟨p, q, r, l, safe⟩).length ≤ 493 := wd_len (w := ⟨p, q, r, l, safe⟩) hz
    refine ⟨by have := right_len _ (logErr_zero (worldErr_zero hz).1).2; omega, fun W e => ?_⟩
    have := wireRead_any (wdBytes ⟨p, q, r, l, safe⟩) W (by unfold maxLen; omega) e
    unfold readV readX at this
    rw [if_neg (by omega), if_neg (by omega), from_back (w := ⟨p, q, r, l, safe⟩) hz] at this
    unfold RdW at this
    rw [← hll]
    exact this
  have H3 := fun W (e : Early W) => wireRead_any s W hs.out e
  have HV : Hid (readX s = 0 → worldErr (readV s).p (readV s).q (readV s).r (readV s).l (readV s).safe = 0 ∧ wdBytes ⟨(readV s).p, (readV s).q, (readV s).r, (readV s).l, (readV s).safe⟩ = s) := fun hz => by
    unfold readX at hz
    by_cases hl : 4096 < s.length
    · rw [if_pos hl] at hz; cases hz
    · rw [if_neg hl] at hz
      unfold readV
      rw [if_neg hl]
      cases hf : fromR s with
      | none => rw [hf] at hz; cases hz
      | some v => exact from_some hf
  unfold RdW at H3
  generalize readV s = V at *
  generalize readX s = x3 at *
  obtain ⟨p2, q2, r2, m, s2⟩ := V
  dsimp only at H3 HV
  generalize worldErr p q r l safe = x1 at *
  have E0 := (Ext.refl w).alloc (.cells (wdCells p q r (.slice a len cap) safe) 28)
  have B0 := Blk.new w w.heap.size (wdCells p q r (.slice a len cap) safe) 28 rfl
  have b0 := B0.cell
  by_cases hx : x1 = 0
  · obtain ⟨h60, HQ⟩ := H2.out hx
    clear H2
    subst hx
    rw [if_pos rfl] at H1
    generalize wdBytes ⟨p, q, r, l, safe⟩ = bs at *
    go_enter Tryd.func4, Tryd.ntmps4
    go_wp2_with fail
    refine (H1 _ E0).mono ?_
    rintro e w1 ⟨rfl, hw⟩
    have E1 := E0.trans hw
    have B1 := B0.ext hw
    clear hw b0 B0 E0 H1
    go_wp2_with fail
    refine (HQ _ (hE.ext E1)).mono ?_
    rintro e w2 ⟨hw, a2, cap2, rfl, L2⟩
    have o2 := (Ext.refl w2).alloc (.cells (wdCells p q r (.slice a2 len cap2) safe) 28)
    have X2 := Blk.new w2 w2.heap.size (wdCells p q r (.slice a2 len cap2) safe) 28 rfl
    have E2 := (E1.trans hw).trans o2
    have B2 := (B1.ext hw).ext o2
    have R2 := L2.ext o2
    clear hw o2 B1 E1 HQ L2
    have b2 := B2.cell
    have x2 := X2.cell
    go_wp2_with fail
    refine (sameWorlds_eq p q r safe a2 a len cap2 cap l _ R2.recs (h.recs.ext E2) (by omega)).mono ?_
    rintro e w3 ⟨rfl, hw⟩
    have E3 := E2.trans hw
    clear hw b2 x2 B2 X2 E2 R2
    go_wp2_with fail
    refine (H3 _ (hE.ext E3)).mono ?_
    rintro e w4 ⟨hw, a4, cap4, rfl, L4⟩
    have o4 := (Ext.refl w4).alloc (.cells (wdCells p2 q2 r2 (.slice a4 m.length cap4) s2) 28)
    have X4 := Blk.new w4 w4.heap.size (wdCells p2 q2 r2 (.slice a4 m.length cap4) s2) 28 rfl
    have E4 := (E3.trans hw).trans o4
    have R4 := L4.ext o4
    clear hw o4 E3 L4 H3
    have x4 := X4.cell
    by_cases hy : x3 = 0
    · obtain ⟨hz, hq⟩ := HV.out hy
      have H5 := wireWrite_any p2 q2 r2 a4 m.length cap4 m s2 _ R4
      rw [if_pos hz, hz, hq] at H5
      have hy2 : (x3 != 0) = false := by simp [hy]
      have hst := run_txt_eql s
      clear HV hz hq hy
      go_wp2_with fail
      refine H5.mono ?_
      rintro e w5 ⟨rfl, hw⟩
      have E5 := E4.trans hw
      clear hw E4 X4 x4 R4 H5
      go_wp2_with fail
      refine (wireBegun_any _ (hE.ext E5)).mono ?_
      rintro e w6 ⟨rfl, hw⟩
      have E6 := E5.trans hw
      clear hw E5
      go_wp2_with fail
      go_ret
      exact ⟨by first | rfl | simp, E6⟩
    · have hy2 : (x3 != 0) = true := by simp [hy]
      clear HV hy
      go_wp2_with fail
      refine (wireBegun_any _ (hE.ext E4)).mono ?_
      rintro e w5 ⟨rfl, hw⟩
      have E5 := E4.trans hw
      clear hw E4 X4 x4 R4
      go_wp2_with fail
      go_ret
      exact ⟨by first | rfl | simp, E5⟩
  · have hb1 : (x1 == 0) = false := by simp [hx]
    clear H2
    rw [if_neg hx] at H1
    go_enter Tryd.func4, Tryd.ntmps4
    go_wp2_with fail
    refine (H1 _ E0).mono ?_
    rintro e w3 ⟨rfl, hw⟩
    have E3 := E0.trans hw
    clear hw b0 B0 E0 H1
    go_wp2_with fail
    refine (H3 _ (hE.ext E3)).mono ?_
    rintro e w4 ⟨hw, a4, cap4, rfl, L4⟩
    have o4 := (Ext.refl w4).alloc (.cells (wdCells p2 q2 r2 (.slice a4 m.length cap4) s2) 28)
    have X4 := Blk.new w4 w4.heap.size (wdCells p2 q2 r2 (.slice a4 m.length cap4) s2) 28 rfl
    have E4 := (E3.trans hw).trans o4
    have R4 := L4.ext o4
    clear hw o4 E3 L4 H3
    have x4 := X4.cell
    by_cases hy : x3 = 0
    · obtain ⟨hz, hq⟩ := HV.out hy
      have H5 := wireWrite_any p2 q2 r2 a4 m.length cap4 m s2 _ R4
      rw [if_pos hz, hz, hq] at H5
      have hy2 : (x3 != 0) = false := by simp [hy]
      have hst := run_txt_eql s
      clear HV hz hq hy
      go_wp2_with fail
      refine H5.mono ?_
      rintro e w5 ⟨rfl, hw⟩
      have E5 := E4.trans hw
      clear hw E4 X4 x4 R4 H5
      go_wp2_with fail
      refine (wireBegun_any _ (hE.ext E5)).mono ?_
      rintro e w6 ⟨rfl, hw⟩
      have E6 := E5.trans hw
      clear hw E5
      go_wp2_with fail
      go_ret
      exact ⟨by first | rfl | simp, E6⟩
    · have hy2 : (x3 != 0) = true := by simp [hy]
      clear HV hy
      go_wp2_with fail
      refine (wireBegun_any _ (hE.ext E4)).mono ?_
      rintro e w5 ⟨rfl, hw⟩
      have E5 := E4.trans hw
      clear hw E4 X4 x4 R4
      go_wp2_with fail
      go_ret
      exact ⟨by first | rfl | simp, E5⟩

set_option maxRecDepth 100000 in
theorem wireBack_lifted (os : Os) (started : os.Started) (H : Type) (enc : TypeId × Value → H) :
    ReturnsInHanded {} Tryd.checked os 4 .any (fun w args => (Rows.wireBackSpec.pre enc Tryd.prog Tryd.f4 Rows.wireBackRow.domain false w args ∧ laidMet Tryd.prog Rows.wireBackRow.laid w) ∧ sizedMet enc Tryd.prog Tryd.f4 (OpenSpec.ofChange Rows.wireBackSpec) false w args) (Rows.wireBackSpec.post enc Tryd.prog Tryd.f4 false true false false) := by
  refine returnsInHanded_of_change_and (C := Tryd.checked) (X := (fun w _ => laidMet Tryd.prog Rows.wireBackRow.laid w)) (fun _ _ _ hh h => h.of_heap hh) own started (by kernel_rfl) Tryd.func4
    (ChangeSpec.witness_at (enc := enc) (C := Tryd.checked) (os := os) (X := (fun w _ => laidMet Tryd.prog Rows.wireBackRow.laid w)) false (let w0 := World.holding Tryd.prog os ⟨#[.cells #[.string ⟨early.toArray⟩] 130], #[], []⟩; { w0 with heap := w0.heap.modify 0 fun | .cells _ t frozen => .cells #[.iface 112 (.pointer (some ⟨(World.holding Tryd.prog default ⟨#[], #[], []⟩).heap.size, 0, none⟩))] t frozen | o => o }) #[.agg #[.int .i64 0, .int .i64 0, .int .i64 0, .int .i64 0, .int .i64 0, .int .i64 0, .int .i64 0, .int .i64 0, .int .i64 0, .int .i64 0, .int .i64 0, .int .i64 0, .slice none 0 0, .int .i64 0], .string ⟨#[]⟩] 8 rfl (by kernel_rfl) (by kernel_rfl) (by kernel_rfl) (by kernel_rfl) (by kernel_rfl)
      (laidMet_of_run (ps := [.cell 0 0, .cell (World.holding Tryd.prog default ⟨#[], #[], []⟩).heap.size 0]) 8 (by kernel_rfl) (by kernel_rfl) (by kernel_rfl))) ?_
  intro W base args ds gs before hval0 hW _ _ hL _
  have hval : ∀ (j : Nat) t v, Tryd.f4.params[j]? = some t → args[j]? = some v → Value.okWide Tryd.prog W .any base t v := hval0
  have hW' := hW
  obtain ⟨p, q, hA0, hV, rfl, hfz, hnd⟩ := hW
  have hA : DataW.TrodAll enc Tryd.prog W 0 (fun _ => true) true Tryd.f4.params.toList args.toList ds p := hA0
  rw [Tryd.params4] at hA hval
  obtain ⟨v0, vs0, d0, ds0, p0, q0, hargs, rfl, rfl, h0, r0⟩ := trodAll_cons hA
  obtain ⟨v1, vs1, d1, ds1, p1, q1, rfl, rfl, rfl, h1, r1⟩ := trodAll_cons r0
  obtain ⟨rfl, rfl, rfl⟩ := trodAll_nil r1
  obtain rfl : args = #[v0, v1] := by cases args; simp_all
  obtain ⟨rfl, rfl⟩ := trodVars_none hV
  obtain ⟨P0, Q0, R0, x0, len0, cap0, l0, safe0, rfl, s0⟩ := open_wd (hval 0 28 v0 rfl rfl) h0
  obtain ⟨S1, rfl, rfl, rfl, z1⟩ := Go.ChangeMaps.open_string Tryd.underlying9 (hval 1 9 v1 rfl rfl) h1
  obtain ⟨⟨b1⟩⟩ := S1
  clear hA0 hval0
  refine (wireBack_go W P0 Q0 R0 x0 len0 cap0 l0 safe0 s0 b1 z1 (early_of_laid hL)).mono fun e W' ⟨he, bel⟩ => ?_
  subst he
  exact ⟨_, rfl, _, _, _, [], _, [], hW', trodAll_mk1 (shut_bool Tryd.underlying4 _),
    (trodAll_cons_mk (Below.trod laidOut (by kernel_rfl) (of_decide_eq_true (by kernel_rfl)) h0 bel (lt_of_trod h0))
    (trodAll_cons_mk (Below.trod laidOut (by kernel_rfl) (of_decide_eq_true (by kernel_rfl)) h1 bel (lt_of_trod h1))
    trodAll_mk0)), rfl, bel.frame _, fun h => by cases h⟩

theorem wireBack_over : Rows.wireBackRow.holds Tryd.pinned (OpenSpec.ofChange Rows.wireBackSpec) :=
  OpenClaim.holds_of_wide 4 Tryd.f4 rfl rfl rfl rfl rfl rfl rfl ⟨rfl, rfl, rfl, rfl, rfl⟩ rfl rfl rfl rfl rfl (by kernel_rfl) Tryd.func4 (by kernel_rfl)
    (of_decide_eq_true (by kernel_rfl)) (by unfold Func.isWrapper; first | (rw [if_pos (by decide +kernel)]; kernel_rfl) | (rw [if_neg (by decide +kernel)]; exact ⟨rfl, rfl⟩))
    (fun os started H enc _ => wireBack_lifted os started H enc)
end Go.Proofs.YtbfefocehnafgaaDoor.B
namespace Go.Proofs.YtbfefocehnafgaaDoor
theorem wireBack_row : Rows.WireBackSaid := B.wireBack_over
theorem wireBack_holds : Rows.WireBackCardSaid :=
  Claim7.holds_tied_plain_at .later [] [.sentinel] true Rows.wireBackCard.stood.harness false
    wireBack_row (fun _ h => by cases h) (by kernel_rfl) (fun _ h => by cases h) wireBack_row_tie rfl ⟨rfl, rfl⟩ (by kernel_rfl) rfl
    (fun f fn hf hfn => by
      obtain rfl : f = 4 := Option.some.inj ((show Tryd.prog.funcNamed Rows.wireBackRow.func = some 4 by kernel_rfl).symm.trans hf) |>.symm
      obtain rfl : fn = Tryd.f4 := (Option.some.inj (Tryd.func4.symm.trans hfn)).symm
      exact ⟨by kernel_rfl, fun j t ht => by
        rw [Tryd.params4] at ht
        have hm : t ∈ [28, 9] := by
          have := Array.mem_of_getElem? ht
          simpa using this
        have hall : ([28, 9].all fun t => Tryd.prog.wantsStandIn t == false) = true := by kernel_rfl
        exact eq_of_beq (List.all_eq_true.1 hall t hm)⟩)
    (by kernel_rfl)
#print axioms wireBack_holds
end Go.Proofs.YtbfefocehnafgaaDoor

