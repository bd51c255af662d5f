/- MendOnce holds: mended half, with whatever pages laid, and then all, it is as if it were mended all at once. -/
import Derived.Test.YtlpodahldpaniaaMend2
import Derived.Test.YtlpodahldpaniaaAnsB
namespace Go.Proofs.Ytlpodahldpaniaa.B
set_option maxRecDepth 100000
open Go.ChangeShapes Go.WideShapes Go.ChangeAt Go.RowKit

set_option maxHeartbeats 16000000 in
theorem mendOnce_go (w : World) (p q r : Pg) (a : Option Addr) (len cap : Nat) (l : List Rc) (safe : Int) (h : LogIn w a len cap l) (steps : Int) (_ : IntKind.i64.has steps) (pa : Option Addr) (plen pcap : Nat) (tr : List Bool) (hT : Bools w pa plen tr ∧ plen ≤ maxLen) :
    Calls Try.prog 7 #[wdVal p q r (.slice a len cap) safe, .int .i64 steps, .slice pa plen pcap] w fun e w' => e = .returned (.bool true) ∧ Ext w w' := by
  have H1 := fun w' (e : Ext w w') => (mendHalf_any p q r a len cap l safe steps pa plen pcap tr w' (h.ext e) (hT.1.ext e) hT.2).mono fun _ _ ⟨h1, h2⟩ => And.intro h1 h2.allIn
  have H2 := fun w' (e : Ext w w') => (mendAll_any p q r a len cap l safe w' (h.ext e)).mono fun _ _ ⟨h1, h2⟩ => And.intro h1 h2.all
  have HA : Hid (errOf (worldErr p q r l safe) (halfX steps plen (l.take safe.toNat)) = 0 → errOf (worldErr p q r l safe) (mendErr (l.take safe.toNat)) = 0 →
      ∃ (p1 q1 r1 p2 q2 r2 : Pg) (m1 m2 : List Rc) (n1 n2 : Nat), laidPg (mendN steps.toNat (l.take safe.toNat)) (tr.getD 0 false) 0 p = p1 ∧ laidPg (mendN steps.toNat (l.take safe.toNat)) (tr.getD 1 false) 1 q = q1 ∧ laidPg (mendN steps.toNat (l.take safe.toNat)) (tr.getD 2 false) 2 r = r1 ∧ mendN steps.toNat (l.take safe.toNat) = m1 ∧
        pgAt (pagesR (mendR (l.take safe.toNat))) 0 = p2 ∧ pgAt (pagesR (mendR (l.take safe.toNat))) 1 = q2 ∧ pgAt (pagesR (mendR (l.take safe.toNat))) 2 = r2 ∧ mendR (l.take safe.toNat) = m2 ∧ needR (l.take safe.toNat) = n2 ∧ n1 ≤ n2 ∧ n2 ≤ 10000 ∧ m1.length ≤ 60 ∧ m2.length ≤ 60 ∧ worldErr p1 q1 r1 m1 (m1.length : Nat) = 0 ∧
        (∀ W a' cap', LogIn W a' m1.length cap' m1 → Calls Try.prog 20 #[wdVal p1 q1 r1 (.slice a' m1.length cap') (m1.length : Nat)] W fun e w' => Ext W w' ∧ ∃ a2 cap2, e = .returned (.tuple #[wdVal p2 q2 r2 (.slice a2 m2.length cap2) (m2.length : Nat), .int .i64 (n1 : Nat), .int .i64 0]) ∧ LogIn w' a2 m2.length cap2 m2)) := fun x y => by
    obtain ⟨hz, _⟩ := errOf_zero x
    obtain ⟨_, hme⟩ := errOf_zero y
    obtain ⟨g1, g2, g3, g4, g5, g6⟩ := mend_half hz hme steps.toNat (tr.getD 0 false) (tr.getD 1 false) (tr.getD 2 false)
    obtain ⟨k1, k2, k3, _⟩ := mend_all hz hme
    refine ⟨_, _, _, _, _, _, _, _, needR (mendN steps.toNat (l.take safe.toNat)), _, rfl, rfl, rfl, rfl, rfl, rfl, rfl, rfl, rfl, g6, needR_le _ (logErr_zero (worldErr_zero (world_cut hz).1).1).2, g2, k3, g1, fun W a' cap' hW => ?_⟩
    have := mendAll_any (laidPg (mendN steps.toNat (l.take safe.toNat)) (tr.getD 0 false) 0 p) (laidPg (mendN steps.toNat (l.take safe.toNat)) (tr.getD 1 false) 1 q) (laidPg (mendN steps.toNat (l.take safe.toNat)) (tr.getD 2 false) 2 r) a' _ cap' (mendN steps.toNat (l.take safe.toNat)) ((mendN steps.toNat (l.take safe.toNat)).length : Nat) W hW
    rw [g3, g1, g4, g5] at this
    exact this.mono fun e w' ⟨h1, h2⟩ => ⟨h1, by rcases h2 with ⟨_, a2, cap2, h3, h4, _⟩ | ⟨h3, _⟩; exact ⟨a2, cap2, h3, h4⟩; exact absurd rfl h3⟩
  generalize errOf (worldErr p q r l safe) (halfX steps plen (l.take safe.toNat)) = x1 at *
  generalize errOf (worldErr p q r l safe) (mendErr (l.take safe.toNat)) = x2 at *
  have E0 := (Ext.refl w).alloc (.cells (wdCells p q r (.slice a len cap) safe) 28)
  have B0 := Blk.new w w.heap.size (wdCells p q r (.slice a len cap) safe) 28 rfl
  by_cases hx : x1 = 0 ∧ x2 = 0
  · obtain ⟨hx1, hx2⟩ := hx
    obtain ⟨p1, q1, r1, p2, q2, r2, m1, m2, n1, n2, d1, d2, d3, d4, d5, d6, d7, d8, d9, hn, hn2, l1, l2, hwe, H3⟩ := HA.out hx1 hx2
    rw [d1, d2, d3, d4] at H1
    rw [d5, d6, d7, d8, d9] at H2
    subst hx1 hx2
    simp only [ansP, ansL, ansS, if_true] at H1 H2
    clear HA d1 d2 d3 d4 d5 d6 d7 d8 d9
    have b0 := B0.cell
    go_enter Try.func7, Try.ntmps7
    go_wp2_with fail
    refine (H1 _ E0).mono ?_
    rintro e w1 ⟨hw, a1, cap1, rfl, L1⟩
    have o1 := (Ext.refl w1).alloc (.cells (wdCells p1 q1 r1 (.slice a1 m1.length cap1) (m1.length : Nat)) 28)
    have X1 := Blk.new w1 w1.heap.size (wdCells p1 q1 r1 (.slice a1 m1.length cap1) (m1.length : Nat)) 28 rfl
    have E1 := (E0.trans hw).trans o1
    have B1 := (B0.ext hw).ext o1
    replace L1 := L1.ext o1
    clear hw o1 b0 B0 E0 H1
    have b1 := B1.cell
    go_wp2_with fail
    refine (H2 _ E1).mono ?_
    rintro e w2 ⟨hw, a2, cap2, rfl, L2⟩
    have o2 := (Ext.refl w2).alloc (.cells (wdCells p2 q2 r2 (.slice a2 m2.length cap2) (m2.length : Nat)) 28)
    have X2 := Blk.new w2 w2.heap.size (wdCells p2 q2 r2 (.slice a2 m2.length cap2) (m2.length : Nat)) 28 rfl
    have E2 := (E1.trans hw).trans o2
    replace X1 := (X1.ext hw).ext o2
    replace L1 := (L1.ext hw).ext o2
    replace L2 := L2.ext o2
    clear hw o2 b1 B1 E1 H2
    have x1c := X1.cell
    go_wp2_with fail
    refine (H3 _ a1 cap1 L1).mono ?_
    rintro e w3 ⟨hw, a3, cap3, rfl, L3⟩
    have o3 := (Ext.refl w3).alloc (.cells (wdCells p2 q2 r2 (.slice a3 m2.length cap3) (m2.length : Nat)) 28)
    have X3 := Blk.new w3 w3.heap.size (wdCells p2 q2 r2 (.slice a3 m2.length cap3) (m2.length : Nat)) 28 rfl
    have E3 := (E2.trans hw).trans o3
    replace X1 := (X1.ext hw).ext o3
    replace X2 := (X2.ext hw).ext o3
    replace L1 := (L1.ext hw).ext o3
    replace L2 := (L2.ext hw).ext o3
    replace L3 := L3.ext o3
    clear hw o3 x1c E2 H3
    go_wp2_with fail
    refine (mendBegun_any _).mono ?_
    rintro e w4 ⟨rfl, hw⟩
    have E4 := E3.trans hw
    replace X1 := X1.ext hw
    have x2c := (X2.ext hw).cell
    have x3c := (X3.ext hw).cell
    replace L1 := L1.ext hw
    replace L2 := L2.ext hw
    replace L3 := L3.ext hw
    clear hw E3 X2 X3
    go_wp2_with fail
    refine (sameWorlds_eq p2 q2 r2 (m2.length : Nat) a3 a2 m2.length cap3 cap2 m2 _ L3.recs L2.recs (by omega)).mono ?_
    rintro e w5 ⟨rfl, hw⟩
    have E5 := E4.trans hw
    have x1c := (X1.ext hw).cell
    replace L1 := L1.ext hw
    clear hw E4 x2c x3c L2 L3
    have hle : (n1 : Int) ≤ (n2 : Int) := by omega
    have H5 := worldCheck_any p1 q1 r1 a1 m1.length cap1 m1 (m1.length : Nat) w5 L1.recs L1.nil L1.max
    rw [hwe] at H5
    go_wp2_with fail
    refine H5.mono ?_
    rintro e w6 ⟨rfl, hw⟩
    go_wp2_with fail
    go_ret
    exact ⟨by simp, E5.trans hw⟩
  · clear HA
    have HX : Hid (¬ (x1 = 0 ∧ x2 = 0)) := hx
    clear hx
    generalize ansP x1 (laidPg (mendN steps.toNat (l.take safe.toNat)) (tr.getD 0 false) 0 p) = p1 at *
    generalize ansP x1 (laidPg (mendN steps.toNat (l.take safe.toNat)) (tr.getD 1 false) 1 q) = q1 at *
    generalize ansP x1 (laidPg (mendN steps.toNat (l.take safe.toNat)) (tr.getD 2 false) 2 r) = r1 at *
    generalize ansS x1 ((mendN steps.toNat (l.take safe.toNat)).length : Nat) = s1 at *
    generalize ansL x1 (mendN steps.toNat (l.take safe.toNat)) = l1 at *
    generalize ansP x2 (pgAt (pagesR (mendR (l.take safe.toNat))) 0) = p2 at *
    generalize ansP x2 (pgAt (pagesR (mendR (l.take safe.toNat))) 1) = q2 at *
    generalize ansP x2 (pgAt (pagesR (mendR (l.take safe.toNat))) 2) = r2 at *
    generalize ansS x2 ((mendR (l.take safe.toNat)).length : Nat) = s2 at *
    generalize ansS x2 (needR (l.take safe.toNat) : Nat) = n2 at *
    generalize ansL x2 (mendR (l.take safe.toNat)) = l2 at *
    have b0 := B0.cell
    go_enter Try.func7, Try.ntmps7
    go_wp2_with fail
    refine (H1 _ E0).mono ?_
    rintro e w1 ⟨hw, a1, cap1, rfl, L1⟩
    have o1 := hw.alloc (.cells (wdCells p1 q1 r1 (.slice a1 l1.length cap1) s1) 28)
    have E1 := E0.trans o1
    have B1 := B0.ext o1
    clear hw o1 b0 B0 E0 H1 L1
    have b1 := B1.cell
    go_wp2_with fail
    refine (H2 _ E1).mono ?_
    rintro e w2 ⟨hw, a2, cap2, rfl, L2⟩
    have o2 := hw.alloc (.cells (wdCells p2 q2 r2 (.slice a2 l2.length cap2) s2) 28)
    have E2 := E1.trans o2
    clear hw o2 b1 B1 E1 H2 L2
    by_cases hx1 : x1 = 0
    · have hb1 : (x1 != 0) = false := by simpa using hx1
      have hb2 : (x2 != 0) = true := by have := HX.out; simp at this ⊢; exact this hx1
      clear hx1
      go_wp2_with fail
      refine (mendBegun_any _).mono ?_
      rintro e w3 ⟨rfl, hw⟩
      go_wp2_with fail
      go_ret
      exact ⟨rfl, E2.trans hw⟩
    · have hb1 : (x1 != 0) = true := by simpa using hx1
      clear hx1
      go_wp2_with fail
      refine (mendBegun_any _).mono ?_
      rintro e w3 ⟨rfl, hw⟩
      go_wp2_with fail
      go_ret
      exact ⟨rfl, E2.trans hw⟩

set_option maxRecDepth 100000 in
theorem mendOnce_lifted (os : Os) (started : os.Started) (H : Type) (enc : TypeId × Value → H) :
    ReturnsInHanded {} Try.checked os 7 .any (Rows.mendOnceSpec.pre6 enc Try.prog Try.f7 Rows.mendOnceRow.domain false) (Rows.mendOnceSpec.post enc Try.prog Try.f7 false true false false) := by
  refine returnsInHanded_of_change (C := Try.checked) own started (by kernel_rfl) Try.func7
    (ChangeSpec.witness6 (enc := enc) (C := Try.checked) false ⟨#[], #[.agg #[.int .i64 0, .int .i64 0, .int .i64 0, .int .i64 0, .int .i64 0, .int .i64 0, .int .i64 0, .int .i64 0, .int .i64 0, .int .i64 0, .int .i64 0, .int .i64 0, .slice none 0 0, .int .i64 0], .int .i64 0, .slice none 0 0], []⟩ 8 (by kernel_rfl) (by kernel_rfl) (by kernel_rfl) (by kernel_rfl)) ?_
  intro W base args ds gs before hval0 hW hcnd _
  have hval : ∀ (j : Nat) t v, Try.f7.params[j]? = some t → args[j]? = some v → Value.okWide Try.prog W .any base t v := hval0
  have hW' := hW
  obtain ⟨p, q, hA0, hV, rfl, hfz, hnd⟩ := hW
  have hA : DataW.TrodAll enc Try.prog W 0 (fun _ => true) true Try.f7.params.toList args.toList ds p := hA0
  rw [Try.params7] at hA hval
  obtain ⟨v0, vs0, d0, ds0, p0, q0, hargs, rfl, rfl, h0, r0⟩ := trodAll_cons hA
  obtain ⟨v1, vs1, d1, ds1, p1, q1, rfl, rfl, rfl, h1, r1⟩ := trodAll_cons r0
  obtain ⟨v2, vs2, d2, ds2, p2, q2, rfl, rfl, rfl, h2, r2⟩ := trodAll_cons r1
  obtain ⟨rfl, rfl, rfl⟩ := trodAll_nil r2
  obtain rfl : args = #[v0, v1, v2] := by cases args; simp_all
  obtain ⟨rfl, rfl⟩ := trodVars_none hV
  obtain ⟨P0, Q0, R0, x0, len0, cap0, l0, safe0, rfl, s0⟩ := open_wd (hval 0 28 v0 rfl rfl) h0
  obtain ⟨a1, rfl, b1⟩ := open_num (hval 1 3 v1 rfl rfl)
  obtain ⟨x2, len2, cap2, l2, rfl, s2⟩ := open_bools (hval 2 49 v2 rfl rfl) h2
  clear hA0 hval0
  refine (mendOnce_go W P0 Q0 R0 x0 len0 cap0 l0 safe0 s0 a1 b1 x2 len2 cap2 l2 s2).mono fun e W' ⟨he, bel⟩ => ?_
  subst he
  exact ⟨_, rfl, _, _, _, [], _, [], hW', trodAll_mk1 (shut_bool Try.underlying4 _),
    (trodAll_cons_mk (Below.trod laidOut (by kernel_rfl) (of_decide_eq_true (by kernel_rfl)) h0 bel (lt_of_trod h0))
    (trodAll_cons_mk (Below.trod laidOut (by kernel_rfl) (of_decide_eq_true (by kernel_rfl)) h1 bel (lt_of_trod h1))
    (trodAll_cons_mk (Below.trod laidOut (by kernel_rfl) (of_decide_eq_true (by kernel_rfl)) h2 bel (lt_of_trod h2))
    trodAll_mk0))), rfl, bel.frame _, fun h => by cases h⟩

theorem mendOnce_over : Rows.mendOnceRow.holds Try.pinned (OpenSpec.ofChange Rows.mendOnceSpec) :=
  OpenClaim.holds_of_wide 7 Try.f7 rfl rfl rfl rfl rfl rfl rfl ⟨rfl, rfl, rfl, rfl, rfl⟩ rfl rfl rfl rfl rfl (by kernel_rfl) Try.func7 (by kernel_rfl)
    (of_decide_eq_true (by kernel_rfl)) (by unfold Func.isWrapper; first | (rw [if_pos (by decide +kernel)]; kernel_rfl) | (rw [if_neg (by decide +kernel)]; exact ⟨rfl, rfl⟩))
    (fun os started H enc _ => mendOnce_lifted os started H enc)
end Go.Proofs.Ytlpodahldpaniaa.B
namespace Go.Proofs.Ytlpodahldpaniaa
theorem mendOnce_holds : Rows.MendOnceSaid := B.mendOnce_over
#print axioms mendOnce_holds
end Go.Proofs.Ytlpodahldpaniaa

