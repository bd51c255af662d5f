/- MendAlls holds: the mend's All answers as the reference's. -/
import Derived.Test.YtlpodahldpaniaaGreatMendedA
namespace Go.Proofs.YtlpodahldpaniaaGreat.B
set_option maxRecDepth 100000
open Go.ChangeShapes Go.WideShapes Go.ChangeAt Go.RowKit

theorem AllAns.all2 {base : Nat} {w' : World} {e : Ending} {p q r : Pg} {x : Int} {n : Nat} {l' : List Rc} {s : Int} (h : AllAns base w' e p q r x n l' s) :
    ∃ a cap, e = .returned (.tuple #[wdVal (ansP x p) (ansP x q) (ansP x r) (.slice a (ansL x l').length cap) (ansS x s), .int .i64 (ansS x (n : Nat)), .int .i64 x]) ∧ LogIn w' a (ansL x l').length cap (ansL x l') ∧ ∀ ad, a = some ad → base ≤ ad.block := by
  unfold ansP ansL ansS
  rcases h with ⟨rfl, a, cap, rfl, hin, hf⟩ | ⟨hx, rfl⟩
  · exact ⟨a, cap, rfl, hin, hf⟩
  · simp only [if_neg hx]
    exact ⟨none, 0, rfl, ⟨recs_none _, Nat.le_refl _, Nat.zero_le _, fun _ => rfl⟩, fun _ e => by cases e⟩
theorem refMended_any (p q r : Pg) (a : Option Addr) (len cap : Nat) (l : List Rc) (safe : Int) (w : World) (h : LogIn w a len cap l) :
    Calls Tryz.prog 22 #[wdVal p q r (.slice a len cap) safe, .int .i64 (-1), .agg #[.bool true, .bool true, .bool true]] w fun e w' => Ext w w' ∧
      AllAns w.heap.size w' e (pgAt (pagesR (mendR (l.take safe.toNat))) 0) (pgAt (pagesR (mendR (l.take safe.toNat))) 1) (pgAt (pagesR (mendR (l.take safe.toNat))) 2) (errOf (worldErr p q r l safe) (mendErr (l.take safe.toNat))) (needR (l.take safe.toNat)) (mendR (l.take safe.toNat)) ((mendR (l.take safe.toNat)).length : Nat) := by
  by_cases hz : worldErr p q r l safe = 0
  · have := refMended_ok p q r a len cap l safe w h hz
    unfold errOf
    rw [if_pos hz]
    exact this
  · have := refMended_no p q r a len cap l safe w h hz
    unfold errOf
    rw [if_neg hz]
    exact this.mono fun e w' ⟨h1, h2⟩ => ⟨h1, Or.inr ⟨hz, h2⟩⟩
set_option maxHeartbeats 8000000 in
theorem refMendAll_any (p q r : Pg) (a : Option Addr) (len cap : Nat) (safe : Int) (w : World) (P Q R : Pg) (x : Int) (n : Int) (m : List Rc) (s : Int)
    (H : ∀ W, Ext w W → Calls Tryz.prog 22 #[wdVal p q r (.slice a len cap) safe, .int .i64 (-1), .agg #[.bool true, .bool true, .bool true]] W fun e w' => Ext W w' ∧ ∃ a' cap', e = .returned (.tuple #[wdVal P Q R (.slice a' m.length cap') s, .int .i64 n, .int .i64 x]) ∧ LogIn w' a' m.length cap' m ∧ ∀ ad, a' = some ad → W.heap.size ≤ ad.block) :
    Calls Tryz.prog 7 #[wdVal p q r (.slice a len cap) safe] w fun e w' => Ext w w' ∧ ∃ a' cap', e = .returned (.tuple #[wdVal P Q R (.slice a' m.length cap') s, .int .i64 n, .int .i64 x]) ∧ LogIn w' a' m.length cap' m := by
  have E0 := ((Ext.refl w).alloc (.cells (wdCells p q r (.slice a len cap) safe) 28)).alloc (.cells (wdCells noPg noPg noPg (.slice none 0 0) 0) 28)
  have B0 := (Blk.new w w.heap.size (wdCells p q r (.slice a len cap) safe) 28 rfl).alloc (.cells (wdCells noPg noPg noPg (.slice none 0 0) 0) 28)
  have N0 := Blk.new (w.alloc (.cells (wdCells p q r (.slice a len cap) safe) 28)) (w.heap.size + 1) (wdCells noPg noPg noPg (.slice none 0 0) 0) 28 (by simp)
  go_enter Tryz.func7, Tryz.ntmps7
  have b0 := B0.cell
  have hb := N0.lt
  go_wp2_with fail
  refine (H _ E0).mono ?_
  rintro e w2 ⟨hw, a2, cap2, rfl, L2, hF⟩
  have E2 := E0.trans hw
  have N2 := N0.ext hw
  have n_ := N2.cell
  have f_ := N2.fr
  have E9 := put14_ext E2 (w.heap.size + 1) (by omega) (.int .i64 P.c0) (.int .i64 P.c1) (.int .i64 P.c2) (.int .i64 P.last) (.int .i64 Q.c0) (.int .i64 Q.c1) (.int .i64 Q.c2) (.int .i64 Q.last) (.int .i64 R.c0) (.int .i64 R.c1) (.int .i64 R.c2) (.int .i64 R.last) (.slice a2 m.length cap2) (.int .i64 s)
  have G9 := put14_gr w2 (w.heap.size + 1) (.int .i64 P.c0) (.int .i64 P.c1) (.int .i64 P.c2) (.int .i64 P.last) (.int .i64 Q.c0) (.int .i64 Q.c1) (.int .i64 Q.c2) (.int .i64 Q.last) (.int .i64 R.c0) (.int .i64 R.c1) (.int .i64 R.c2) (.int .i64 R.last) (.slice a2 m.length cap2) (.int .i64 s)
  have HL9 := (show Hid _ from L2.gr G9 (fun ad e e2 => by injection e2 with e2; have := hF ad e; omega))
  clear G9 b0 B0 N0 E0 H hw hF L2
  go_wp2_with fail
  refine bodyPost_ret (v := .tuple #[.agg (wdCells P Q R (.slice a2 m.length cap2) s), .int .i64 n, .int .i64 x]) (by simp [results, Tryz.results7, go_sem, n_]) rfl ⟨E9, a2, cap2, rfl, HL9.out⟩
set_option maxHeartbeats 8000000 in
theorem mendAlls_go (w : World) (p q r : Pg) (a : Option Addr) (len cap : Nat) (l : List Rc) (safe : Int) (h : LogIn w a len cap l) :
    Calls Tryz.prog 3 #[wdVal p q r (.slice a len cap) safe] w fun e w' => e = .returned (.bool true) ∧ Ext w w' := by
  have H1 := fun w' (e : Ext w w') => (mendAll_any p q r a len cap l safe w' (h.ext e)).mono fun _ _ ⟨h1, h2⟩ => And.intro h1 h2.all
  have H2 := fun w' (e : Ext w w') => refMendAll_any p q r a len cap safe w' _ _ _ _ _ _ _ (fun W e2 => (refMended_any p q r a len cap l safe W (h.ext (e.trans e2))).mono fun _ _ ⟨h1, h2⟩ => And.intro h1 h2.all2)
  have hm60 : (ansL (errOf (worldErr p q r l safe) (mendErr (l.take safe.toNat))) (mendR (l.take safe.toNat))).length ≤ 60 := by
    unfold ansL
    split
    · rename_i hx
      obtain ⟨hz, hme⟩ := errOf_zero hx
      exact (mend_all hz hme).2.2.1
    · exact Nat.zero_le _
  generalize errOf (worldErr p q r l safe) (mendErr (l.take safe.toNat)) = x1 at *
  generalize ansP x1 (pgAt (pagesR (mendR (l.take safe.toNat))) 0) = p2 at *
  generalize ansP x1 (pgAt (pagesR (mendR (l.take safe.toNat))) 1) = q2 at *
  generalize ansP x1 (pgAt (pagesR (mendR (l.take safe.toNat))) 2) = r2 at *
  generalize ansS x1 ((mendR (l.take safe.toNat)).length : Nat) = s2 at *
  generalize ansS x1 (needR (l.take safe.toNat) : Nat) = n2 at *
  generalize ansL x1 (mendR (l.take safe.toNat)) = m at *
  have E0 := (Ext.refl w).alloc (.cells (wdCells p q r (.slice a len cap) safe) 28)
  have B0 := Blk.new w w.heap.size (wdCells p q r (.slice a len cap) safe) 28 rfl
  have b0 := B0.cell
  go_enter Tryz.func3, Tryz.ntmps3
  go_wp2_with fail
  refine (H1 _ E0).mono ?_
  rintro e w1 ⟨hw, a1, cap1, rfl, L1⟩
  have o1 := (Ext.refl w1).alloc (.cells (wdCells p2 q2 r2 (.slice a1 m.length cap1) s2) 28)
  have X1 := Blk.new w1 w1.heap.size (wdCells p2 q2 r2 (.slice a1 m.length cap1) s2) 28 rfl
  have E1 := (E0.trans hw).trans o1
  have B1 := (B0.ext hw).ext o1
  have R1 := L1.ext o1
  clear hw o1 b0 B0 E0 H1 L1
  have b1 := B1.cell
  go_wp2_with fail
  refine (H2 _ E1).mono ?_
  rintro e w2 ⟨hw, a2, cap2, rfl, L2⟩
  have o2 := (Ext.refl w2).alloc (.cells (wdCells p2 q2 r2 (.slice a2 m.length cap2) s2) 28)
  have Y2 := Blk.new w2 w2.heap.size (wdCells p2 q2 r2 (.slice a2 m.length cap2) s2) 28 rfl
  have E2 := (E1.trans hw).trans o2
  have X2 := (X1.ext hw).ext o2
  have R2 := (R1.ext hw).ext o2
  have S2 := L2.ext o2
  clear hw o2 b1 B1 E1 H2 X1 R1 L2
  generalize w1.heap.size = bx at *
  go_wp2_with fail
  refine (mendBegun_any _).mono ?_
  rintro e w3 ⟨rfl, hw⟩
  have E3 := E2.trans hw
  have R3 := R2.ext hw
  have S3 := S2.ext hw
  have x3 := (X2.ext hw).cell
  have y3 := (Y2.ext hw).cell
  clear hw E2 R2 S2 X2 Y2
  generalize w2.heap.size = by_ at *
  have hb1 : (n2 == n2) = true := by simp
  have hb2 : (x1 == x1) = true := by simp
  go_wp2_with fail
  refine (sameWorlds_eq p2 q2 r2 s2 a1 a2 m.length cap1 cap2 m _ R3.recs S3.recs (by omega)).mono ?_
  rintro e wA ⟨rfl, hw⟩
  go_wp2_with fail
  go_ret
  exact ⟨by first | rfl | simp, E3.trans hw⟩

set_option maxRecDepth 100000 in
theorem mendAlls_lifted (os : Os) (started : os.Started) (H : Type) (enc : TypeId × Value → H) :
    ReturnsInHanded {} Tryz.checked os 3 .any (Rows.mendAllsSpec.pre6 enc Tryz.prog Tryz.f3 Rows.mendAllsRow.domain false) (Rows.mendAllsSpec.post enc Tryz.prog Tryz.f3 false true false false) := by
  refine returnsInHanded_of_change (C := Tryz.checked) own started (by kernel_rfl) Tryz.func3
    (ChangeSpec.witness6 (enc := enc) (C := Tryz.checked) false ⟨#[], #[.agg #[.int .i64 0, .int .i64 0, .int .i64 0, .int .i64 0, .int .i64 0, .int .i64 0, .int .i64 0, .int .i64 0, .int .i64 0, .int .i64 0, .int .i64 0, .int .i64 0, .slice none 0 0, .int .i64 0]], []⟩ 8 (by kernel_rfl) (by kernel_rfl) (by kernel_rfl) (by kernel_rfl)) ?_
  intro W base args ds gs before hval0 hW hcnd _
  have hval : ∀ (j : Nat) t v, Tryz.f3.params[j]? = some t → args[j]? = some v → Value.okWide Tryz.prog W .any base t v := hval0
  have hW' := hW
  obtain ⟨p, q, hA0, hV, rfl, hfz, hnd⟩ := hW
  have hA : DataW.TrodAll enc Tryz.prog W 0 (fun _ => true) true Tryz.f3.params.toList args.toList ds p := hA0
  rw [Tryz.params3] at hA hval
  obtain ⟨v0, vs0, d0, ds0, p0, q0, hargs, rfl, rfl, h0, r0⟩ := trodAll_cons hA
  obtain ⟨rfl, rfl, rfl⟩ := trodAll_nil r0
  obtain rfl : args = #[v0] := by cases args; simp_all
  obtain ⟨rfl, rfl⟩ := trodVars_none hV
  obtain ⟨P0, Q0, R0, x0, len0, cap0, l0, safe0, rfl, s0⟩ := open_wd (hval 0 28 v0 rfl rfl) h0
  clear hA0 hval0
  refine (mendAlls_go W P0 Q0 R0 x0 len0 cap0 l0 safe0 s0).mono fun e W' ⟨he, bel⟩ => ?_
  subst he
  exact ⟨_, rfl, _, _, _, [], _, [], hW', trodAll_mk1 (shut_bool Tryz.underlying4 _),
    (trodAll_cons_mk (Below.trod laidOut (by kernel_rfl) (of_decide_eq_true (by kernel_rfl)) h0 bel (lt_of_trod h0))
    trodAll_mk0), rfl, bel.frame _, fun h => by cases h⟩

theorem mendAlls_over : Rows.mendAllsRow.holds Tryz.pinned (OpenSpec.ofChange Rows.mendAllsSpec) :=
  OpenClaim.holds_of_wide 3 Tryz.f3 rfl rfl rfl rfl rfl rfl rfl ⟨rfl, rfl, rfl, rfl, rfl⟩ rfl rfl rfl rfl rfl (by kernel_rfl) Tryz.func3 (by kernel_rfl)
    (of_decide_eq_true (by kernel_rfl)) (by unfold Func.isWrapper; first | (rw [if_pos (by decide +kernel)]; kernel_rfl) | (rw [if_neg (by decide +kernel)]; exact ⟨rfl, rfl⟩))
    (fun os started H enc _ => mendAlls_lifted os started H enc)
end Go.Proofs.YtlpodahldpaniaaGreat.B
namespace Go.Proofs.YtlpodahldpaniaaGreat
theorem mendAlls_holds : Rows.MendAllsSaid := B.mendAlls_over
#print axioms mendAlls_holds
end Go.Proofs.YtlpodahldpaniaaGreat

