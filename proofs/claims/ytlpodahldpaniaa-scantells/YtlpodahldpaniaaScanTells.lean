/- ScanTells holds: scan.Crash and scan.Losers answer what the reference answers, errors too, whatever they are handed. -/
import Derived.Test.YtlpodahldpaniaaScan6
namespace Go.Proofs.Ytlpodahldpaniaa.B
set_option maxRecDepth 100000
open Go.ChangeShapes Go.WideShapes Go.ChangeAt Go.RowKit

set_option maxHeartbeats 16000000 in
theorem scanTells_go (w : World) (p q r : Pg) (a : Option Addr) (len cap : Nat) (l : List Rc) (safe : Int) (h : LogIn w a len cap l) :
    Calls Try.prog 3 #[wdVal p q r (.slice a len cap) safe] w fun e w' => e = .returned (.bool true) ∧ Ext w w' := by
  have H1 := fun w' (e : Ext w w') => (crash_any p q r a len cap l safe w' (h.ext e)).mono fun _ _ ⟨h1, h2⟩ => And.intro h1 h2.all
  have H2 := fun w' (e : Ext w w') => losers_any a len cap l w' (h.recs.ext e) h.max
  have H3 := fun w' (e : Ext w w') => (crashOf_any p q r a len cap l safe w' (h.ext e)).mono fun _ _ ⟨h1, h2⟩ => And.intro h1 h2.work.all
  have H4 := fun w' (e : Ext w w') => losersOf_any a len cap l w' (h.recs.ext e) h.le h.max
  have L1 : (ansL (worldErr p q r l safe) (l.take safe.toNat)).length ≤ 1000 := ansL_len fun hz => by
    have := (logErr_zero (worldErr_zero hz).1).1
    rw [List.length_take]
    omega
  have L2 : (losersOr l).length ≤ 1000 := by
    unfold losersOr
    split
    · have := losersR_le l; omega
    · simp
  generalize worldErr p q r l safe = x1 at *
  generalize logErr l = x2 at *
  generalize losersOr l = lo at *
  generalize ansP x1 p = p1 at *
  generalize ansP x1 q = q1 at *
  generalize ansP x1 r = r1 at *
  generalize ansS x1 safe = s1 at *
  generalize ansL x1 (l.take safe.toNat) = l1 at *
  have E0 := (Ext.refl w).alloc (.cells (wdCells p q r (.slice a len cap) safe) 28)
  have B0 := Blk.new w w.heap.size (wdCells p q r (.slice a len cap) safe) 28 rfl
  have b0 := B0.cell
  go_enter Try.func3, Try.ntmps3
  go_wp2_with fail
  refine (H1 _ E0).mono ?_
  rintro e w1 ⟨hw, a1, cap1, rfl, R1⟩
  have o1 := (Ext.refl w1).alloc (.cells (wdCells p1 q1 r1 (.slice a1 l1.length cap1) s1) 28)
  have X1 := Blk.new w1 w1.heap.size (wdCells p1 q1 r1 (.slice a1 l1.length cap1) s1) 28 rfl
  have E1 := (E0.trans hw).trans o1
  have B1 := (B0.ext hw).ext o1
  replace R1 := R1.ext o1
  clear hw o1 b0 B0 E0 H1
  have b1 := B1.cell
  go_wp2_with fail
  refine (H2 _ E1).mono ?_
  rintro e w2 ⟨⟨a2, c2, rfl, _, I2⟩, hw⟩
  have E2 := E1.trans hw
  have B2 := B1.ext hw
  replace X1 := X1.ext hw
  replace R1 := R1.ext hw
  clear hw b1 B1 E1 H2
  have b2 := B2.cell
  go_wp2_with fail
  refine (H3 _ E2).mono ?_
  rintro e w3 ⟨hw, a3, cap3, rfl, R3⟩
  have o3 := (Ext.refl w3).alloc (.cells (wdCells p1 q1 r1 (.slice a3 l1.length cap3) s1) 28)
  have X3 := Blk.new w3 w3.heap.size (wdCells p1 q1 r1 (.slice a3 l1.length cap3) s1) 28 rfl
  have E3 := (E2.trans hw).trans o3
  have B3 := (B2.ext hw).ext o3
  replace X1 := (X1.ext hw).ext o3
  replace R1 := (R1.ext hw).ext o3
  replace I2 := (I2.ext hw).ext o3
  replace R3 := R3.ext o3
  clear hw o3 b2 B2 E2 H3
  have b3 := B3.cell
  go_wp2_with fail
  refine (H4 _ E3).mono ?_
  rintro e w4 ⟨⟨a4, c4, rfl, _, I4⟩, hw⟩
  have E4 := E3.trans hw
  replace X1 := X1.ext hw
  replace X3 := X3.ext hw
  replace R1 := R1.ext hw
  replace I2 := I2.ext hw
  replace R3 := R3.ext hw
  clear hw b3 B3 E3 H4
  go_wp2_with fail
  refine (scanBegun_any _).mono ?_
  rintro e w5 ⟨rfl, hw⟩
  have E5 := E4.trans hw
  have x1c := (X1.ext hw).cell
  have x3c := (X3.ext hw).cell
  replace R1 := R1.ext hw
  replace R3 := R3.ext hw
  replace I2 := I2.ext hw
  replace I4 := I4.ext hw
  clear hw E4 X1 X3
  go_wp2_with fail
  refine (sameWorlds_eq p1 q1 r1 s1 a1 a3 l1.length cap1 cap3 l1 _ R1 R3 L1).mono ?_
  rintro e w6 ⟨rfl, hw⟩
  have E6 := E5.trans hw
  replace I2 := I2.ext hw
  replace I4 := I4.ext hw
  clear hw E5 x1c x3c R1 R3
  have hb1 : (x1 == x1) = true := by simp
  go_wp2_with fail
  refine (sameInts_eq _ _ a2 a4 c2 c4 lo _ I2 I4 L2).mono ?_
  rintro e w7 ⟨rfl, hw⟩
  have hb2 : (x2 == x2) = true := by simp
  go_wp2_with fail
  go_ret
  exact ⟨by simp, E6.trans hw⟩

set_option maxRecDepth 100000 in
theorem scanTells_lifted (os : Os) (started : os.Started) (H : Type) (enc : TypeId × Value → H) :
    ReturnsInHanded {} Try.checked os 3 .any (Rows.scanTellsSpec.pre6 enc Try.prog Try.f3 Rows.scanTellsRow.domain false) (Rows.scanTellsSpec.post enc Try.prog Try.f3 false true false false) := by
  refine returnsInHanded_of_change (C := Try.checked) own started (by kernel_rfl) Try.func3
    (ChangeSpec.witness6 (enc := enc) (C := Try.checked) false ⟨#[], #[.agg #[.int .i64 0, .int .i64 0, .int .i64 0, .int .i64 0, .int .i64 0, .int .i64 0, .int .i64 0, .int .i64 0, .int .i64 0, .int .i64 0, .int .i64 0, .int .i64 0, .slice none 0 0, .int .i64 0]], []⟩ 8 (by kernel_rfl) (by kernel_rfl) (by kernel_rfl) (by kernel_rfl)) ?_
  intro W base args ds gs before hval0 hW hcnd _
  have hval : ∀ (j : Nat) t v, Try.f3.params[j]? = some t → args[j]? = some v → Value.okWide Try.prog W .any base t v := hval0
  have hW' := hW
  obtain ⟨p, q, hA0, hV, rfl, hfz, hnd⟩ := hW
  have hA : DataW.TrodAll enc Try.prog W 0 (fun _ => true) true Try.f3.params.toList args.toList ds p := hA0
  rw [Try.params3] at hA hval
  obtain ⟨v0, vs0, d0, ds0, p0, q0, hargs, rfl, rfl, h0, r0⟩ := trodAll_cons hA
  obtain ⟨rfl, rfl, rfl⟩ := trodAll_nil r0
  obtain rfl : args = #[v0] := by cases args; simp_all
  obtain ⟨rfl, rfl⟩ := trodVars_none hV
  obtain ⟨P0, Q0, R0, x0, len0, cap0, l0, safe0, rfl, s0⟩ := open_wd (hval 0 28 v0 rfl rfl) h0
  clear hA0 hval0
  refine (scanTells_go W P0 Q0 R0 x0 len0 cap0 l0 safe0 s0).mono fun e W' ⟨he, bel⟩ => ?_
  subst he
  exact ⟨_, rfl, _, _, _, [], _, [], hW', trodAll_mk1 (shut_bool Try.underlying4 _),
    (trodAll_cons_mk (Below.trod laidOut (by kernel_rfl) (of_decide_eq_true (by kernel_rfl)) h0 bel (lt_of_trod h0))
    trodAll_mk0), rfl, bel.frame _, fun h => by cases h⟩

theorem scanTells_over : Rows.scanTellsRow.holds Try.pinned (OpenSpec.ofChange Rows.scanTellsSpec) :=
  OpenClaim.holds_of_wide 3 Try.f3 rfl rfl rfl rfl rfl rfl rfl ⟨rfl, rfl, rfl, rfl, rfl⟩ rfl rfl rfl rfl rfl (by kernel_rfl) Try.func3 (by kernel_rfl)
    (of_decide_eq_true (by kernel_rfl)) (by unfold Func.isWrapper; first | (rw [if_pos (by decide +kernel)]; kernel_rfl) | (rw [if_neg (by decide +kernel)]; exact ⟨rfl, rfl⟩))
    (fun os started H enc _ => scanTells_lifted os started H enc)
end Go.Proofs.Ytlpodahldpaniaa.B
namespace Go.Proofs.Ytlpodahldpaniaa
theorem scanTells_holds : Rows.ScanTellsSaid := B.scanTells_over
#print axioms scanTells_holds
end Go.Proofs.Ytlpodahldpaniaa

