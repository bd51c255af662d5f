/- FlushTells holds: flush.Sync and flush.Page answer what the reference answers, errors too, whatever they are handed. -/
import Derived.Test.YtmccggfegllfnaaFlush4
import Derived.Test.YtmccggfegllfnaaAns
namespace Go.Proofs.Ytmccggfegllfnaa.B
set_option maxRecDepth 100000
open Go.ChangeShapes Go.WideShapes Go.ChangeAt Go.RowKit

set_option maxHeartbeats 16000000 in
theorem flushTells_go (w : World) (p q r : Pg) (a : Option Addr) (len cap : Nat) (l : List Rc) (safe : Int) (h : LogIn w a len cap l) (n : Int) (_ : IntKind.i64.has n) :
    Calls Try.prog 7 #[wdVal p q r (.slice a len cap) safe, .int .i64 n] w fun e w' => e = .returned (.bool true) ∧ Ext w w' := by
  have H1 := fun w' (e : Ext w w') => (flushSync_any p q r a len cap l safe n w' (h.ext e)).mono fun _ _ ⟨h1, h2⟩ => And.intro h1 h2.all
  have H2 := fun w' (e : Ext w w') => (flushPage_any p q r a len cap l safe n w' (h.ext e)).mono fun _ _ ⟨h1, h2⟩ => And.intro h1 h2.all
  have H3 := fun w' (e : Ext w w') => (syncOf_any p q r a len cap l safe n w' (h.ext e)).mono fun _ _ ⟨h1, h2⟩ => And.intro h1 h2.all
  have H4 := fun w' (e : Ext w w') => (flushOf_any p q r a len cap l safe n w' (h.ext e)).mono fun _ _ ⟨h1, h2⟩ => And.intro h1 h2.all
  have L1 : (ansL (errOf (worldErr p q r l safe) (syncErr l n)) l).length ≤ 1000 := ansL_le
  have L2 : (ansL (errOf (worldErr p q r l safe) (pageErr n)) l).length ≤ 1000 := ansL_le
  generalize errOf (worldErr p q r l safe) (syncErr l n) = x1 at *
  generalize errOf (worldErr p q r l safe) (pageErr n) = x2 at *
  generalize ansP x1 p = p1 at *
  generalize ansP x1 q = q1 at *
  generalize ansP x1 r = r1 at *
  generalize ansS x1 (maxI safe n) = s1 at *
  generalize ansL x1 l = l1 at *
  generalize ansP x2 (layPg l n 0 p) = p2 at *
  generalize ansP x2 (layPg l n 1 q) = q2 at *
  generalize ansP x2 (layPg l n 2 r) = r2 at *
  generalize ansS x2 (laySafe l safe n) = s2 at *
  generalize ansL x2 l = l2 at *
  have E0 := (Ext.refl w).alloc (.cells (wdCells p q r (.slice a len cap) safe) 28)
  have B0 := Blk.new w w.heap.size (wdCells p q r (.slice a len cap) safe) 28 rfl
  have b0 := B0.cell
  go_enter Try.func7, Try.ntmps7
  go_wp2_with fail
  refine (H1 _ E0).mono ?_
  rintro e w1 ⟨hw, a1, cap1, rfl, R1⟩
  have o1 := (Ext.refl w1).alloc (.cells (wdCells p1 q1 r1 (.slice a1 l1.length cap1) s1) 28)
  have X1 := Blk.new w1 w1.heap.size (wdCells p1 q1 r1 (.slice a1 l1.length cap1) s1) 28 rfl
  have E1 := (E0.trans hw).trans o1
  have B1 := (B0.ext hw).ext o1
  replace R1 := R1.ext o1
  clear hw o1 b0 B0 E0 H1
  have b1 := B1.cell
  go_wp2_with fail
  refine (H2 _ E1).mono ?_
  rintro e w2 ⟨hw, a2, cap2, rfl, R2⟩
  have o2 := (Ext.refl w2).alloc (.cells (wdCells p2 q2 r2 (.slice a2 l2.length cap2) s2) 28)
  have X2 := Blk.new w2 w2.heap.size (wdCells p2 q2 r2 (.slice a2 l2.length cap2) s2) 28 rfl
  have E2 := (E1.trans hw).trans o2
  have B2 := (B1.ext hw).ext o2
  replace X1 := (X1.ext hw).ext o2
  replace R1 := (R1.ext hw).ext o2
  replace R2 := R2.ext o2
  clear hw o2 b1 B1 E1 H2
  have b2 := B2.cell
  go_wp2_with fail
  refine (H3 _ E2).mono ?_
  rintro e w3 ⟨hw, a3, cap3, rfl, R3⟩
  have o3 := (Ext.refl w3).alloc (.cells (wdCells p1 q1 r1 (.slice a3 l1.length cap3) s1) 28)
  have X3 := Blk.new w3 w3.heap.size (wdCells p1 q1 r1 (.slice a3 l1.length cap3) s1) 28 rfl
  have E3 := (E2.trans hw).trans o3
  have B3 := (B2.ext hw).ext o3
  replace X1 := (X1.ext hw).ext o3
  replace X2 := (X2.ext hw).ext o3
  replace R1 := (R1.ext hw).ext o3
  replace R2 := (R2.ext hw).ext o3
  replace R3 := R3.ext o3
  clear hw o3 b2 B2 E2 H3
  have b3 := B3.cell
  go_wp2_with fail
  refine (H4 _ E3).mono ?_
  rintro e w4 ⟨hw, a4, cap4, rfl, R4⟩
  have o4 := (Ext.refl w4).alloc (.cells (wdCells p2 q2 r2 (.slice a4 l2.length cap4) s2) 28)
  have X4 := Blk.new w4 w4.heap.size (wdCells p2 q2 r2 (.slice a4 l2.length cap4) s2) 28 rfl
  have E4 := (E3.trans hw).trans o4
  replace X1 := (X1.ext hw).ext o4
  replace X2 := (X2.ext hw).ext o4
  replace X3 := (X3.ext hw).ext o4
  replace R1 := (R1.ext hw).ext o4
  replace R2 := (R2.ext hw).ext o4
  replace R3 := (R3.ext hw).ext o4
  replace R4 := R4.ext o4
  clear hw o4 b3 B3 E3 H4
  go_wp2_with fail
  refine (flushBegun_any _).mono ?_
  rintro e w5 ⟨rfl, hw⟩
  have E5 := E4.trans hw
  have x1c := (X1.ext hw).cell
  have x3c := (X3.ext hw).cell
  replace X2 := X2.ext hw
  replace X4 := X4.ext hw
  replace R1 := R1.ext hw
  replace R2 := R2.ext hw
  replace R3 := R3.ext hw
  replace R4 := R4.ext hw
  clear hw E4 X1 X3
  go_wp2_with fail
  refine (sameWorlds_eq p1 q1 r1 s1 a1 a3 l1.length cap1 cap3 l1 _ R1 R3 L1).mono ?_
  rintro e w6 ⟨rfl, hw⟩
  have E6 := E5.trans hw
  have x2c := (X2.ext hw).cell
  have x4c := (X4.ext hw).cell
  replace R2 := R2.ext hw
  replace R4 := R4.ext hw
  clear hw E5 X2 X4 x1c x3c R1 R3
  have hb1 : (x1 == x1) = true := by simp
  go_wp2_with fail
  refine (sameWorlds_eq p2 q2 r2 s2 a2 a4 l2.length cap2 cap4 l2 _ R2 R4 L2).mono ?_
  rintro e w7 ⟨rfl, hw⟩
  go_wp2_with fail
  go_ret
  exact ⟨by simp, E6.trans hw⟩

set_option maxRecDepth 100000 in
theorem flushTells_lifted (os : Os) (started : os.Started) (H : Type) (enc : TypeId × Value → H) :
    ReturnsInHanded {} Try.checked os 7 .any (Rows.flushTellsSpec.pre6 enc Try.prog Try.f7 Rows.flushTellsRow.domain false) (Rows.flushTellsSpec.post enc Try.prog Try.f7 false true false false) := by
  refine returnsInHanded_of_change (C := Try.checked) own started (by kernel_rfl) Try.func7
    (ChangeSpec.witness6 (enc := enc) (C := Try.checked) false ⟨#[], #[.agg #[.int .i64 0, .int .i64 0, .int .i64 0, .int .i64 0, .int .i64 0, .int .i64 0, .int .i64 0, .int .i64 0, .int .i64 0, .int .i64 0, .int .i64 0, .int .i64 0, .slice none 0 0, .int .i64 0], .int .i64 0], []⟩ 8 (by kernel_rfl) (by kernel_rfl) (by kernel_rfl) (by kernel_rfl)) ?_
  intro W base args ds gs before hval0 hW hcnd _
  have hval : ∀ (j : Nat) t v, Try.f7.params[j]? = some t → args[j]? = some v → Value.okWide Try.prog W .any base t v := hval0
  have hW' := hW
  obtain ⟨p, q, hA0, hV, rfl, hfz, hnd⟩ := hW
  have hA : DataW.TrodAll enc Try.prog W 0 (fun _ => true) true Try.f7.params.toList args.toList ds p := hA0
  rw [Try.params7] at hA hval
  obtain ⟨v0, vs0, d0, ds0, p0, q0, hargs, rfl, rfl, h0, r0⟩ := trodAll_cons hA
  obtain ⟨v1, vs1, d1, ds1, p1, q1, rfl, rfl, rfl, h1, r1⟩ := trodAll_cons r0
  obtain ⟨rfl, rfl, rfl⟩ := trodAll_nil r1
  obtain rfl : args = #[v0, v1] := by cases args; simp_all
  obtain ⟨rfl, rfl⟩ := trodVars_none hV
  obtain ⟨P0, Q0, R0, x0, len0, cap0, l0, safe0, rfl, s0⟩ := open_wd (hval 0 28 v0 rfl rfl) h0
  obtain ⟨a1, rfl, b1⟩ := open_num (hval 1 3 v1 rfl rfl)
  clear hA0 hval0
  refine (flushTells_go W P0 Q0 R0 x0 len0 cap0 l0 safe0 s0 a1 b1).mono fun e W' ⟨he, bel⟩ => ?_
  subst he
  exact ⟨_, rfl, _, _, _, [], _, [], hW', trodAll_mk1 (shut_bool Try.underlying4 _),
    (trodAll_cons_mk (Below.trod laidOut (by kernel_rfl) (of_decide_eq_true (by kernel_rfl)) h0 bel (lt_of_trod h0))
    (trodAll_cons_mk (Below.trod laidOut (by kernel_rfl) (of_decide_eq_true (by kernel_rfl)) h1 bel (lt_of_trod h1))
    trodAll_mk0)), rfl, bel.frame _, fun h => by cases h⟩

theorem flushTells_over : Rows.flushTellsRow.holds Try.pinned (OpenSpec.ofChange Rows.flushTellsSpec) :=
  OpenClaim.holds_of_wide 7 Try.f7 rfl rfl rfl rfl rfl rfl rfl ⟨rfl, rfl, rfl, rfl, rfl⟩ rfl rfl rfl rfl rfl (by kernel_rfl) Try.func7 (by kernel_rfl)
    (of_decide_eq_true (by kernel_rfl)) (by unfold Func.isWrapper; first | (rw [if_pos (by decide +kernel)]; kernel_rfl) | (rw [if_neg (by decide +kernel)]; exact ⟨rfl, rfl⟩))
    (fun os started H enc _ => flushTells_lifted os started H enc)
end Go.Proofs.Ytmccggfegllfnaa.B
namespace Go.Proofs.Ytmccggfegllfnaa
theorem flushTells_holds : Rows.FlushTellsSaid := B.flushTells_over
#print axioms flushTells_holds
end Go.Proofs.Ytmccggfegllfnaa

