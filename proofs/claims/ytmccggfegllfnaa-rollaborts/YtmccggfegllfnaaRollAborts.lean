/- RollAborts holds: roll.Abort answers what the reference answers, errors too, whatever it is handed. -/
import Derived.Test.YtmccggfegllfnaaRoll3
import Derived.Test.YtmccggfegllfnaaRoll4
namespace Go.Proofs.Ytmccggfegllfnaa.B
set_option maxRecDepth 100000
open Go.ChangeShapes Go.WideShapes Go.ChangeAt Go.RowKit

set_option maxHeartbeats 8000000 in
theorem rollAborts_go (w : World) (p q r : Pg) (a : Option Addr) (len cap : Nat) (l : List Rc) (safe : Int) (h : LogIn w a len cap l) (t : Int) (_ : IntKind.i64.has t) :
    Calls Try.prog 5 #[wdVal p q r (.slice a len cap) safe, .int .i64 t] w fun e w' => e = .returned (.bool true) ∧ Ext w w' := by
  have H1 := fun w' (e : Ext w w') => rollAbort_any p q r a len cap l safe t w' (h.ext e)
  have H2 := fun w' (e : Ext w w') => abortOf_any p q r a len cap l safe t w' (h.ext e)
  have HL : Hid (errOf (worldErr p q r l safe) (abortErr l t) = 0 → (abortR l t).length ≤ 1000) := fun h0 => by
    have hz : worldErr p q r l safe = 0 := by
      by_cases hz : worldErr p q r l safe = 0
      · exact hz
      · unfold errOf at h0; rw [if_neg hz] at h0; exact absurd h0 hz
    rw [errOf_good hz] at h0
    have h1 := (abort_right (logErr_zero (worldErr_zero hz).1).2 h0).2.2
    have h2 := (abortErr_zero h0).2
    omega
  generalize errOf (worldErr p q r l safe) (abortErr l t) = xx at *
  generalize abortR l t = l' at *
  have E0 := (Ext.refl w).alloc (.cells (wdCells p q r (.slice a len cap) safe) 28)
  have B0 := Blk.new w w.heap.size (wdCells p q r (.slice a len cap) safe) 28 rfl
  have b0 := B0.cell
  go_enter Try.func5, Try.ntmps5
  go_wp2_with fail
  refine (H1 _ E0).mono ?_
  rintro e w1 ⟨hw, ⟨hx, a1, cap1, rfl, hin1, _⟩ | ⟨hx, rfl⟩⟩
  · have hl1000 := HL.out hx
    have HX := (show Hid (xx = 0) from hx)
    clear hx
    have o1 := (Ext.refl w1).alloc (.cells (wdCells p q r (.slice a1 l'.length cap1) safe) 28)
    have X := Blk.new w1 w1.heap.size (wdCells p q r (.slice a1 l'.length cap1) safe) 28 rfl
    have E1 := (E0.trans hw).trans o1
    have B1 := (B0.ext hw).ext o1
    have I1 := hin1.ext o1
    clear hw o1 b0 B0 E0 hin1
    have b1 := B1.cell
    go_wp2_with fail
    refine (H2 _ E1).mono ?_
    rintro e w2 ⟨hw, ⟨_, a2, cap2, rfl, hin2, _⟩ | ⟨hx, _⟩⟩
    rotate_left
    · exact absurd HX.out hx
    have o2 := (Ext.refl w2).alloc (.cells (wdCells p q r (.slice a2 l'.length cap2) safe) 28)
    have Y := Blk.new w2 w2.heap.size (wdCells p q r (.slice a2 l'.length cap2) safe) 28 rfl
    have E2 := (E1.trans hw).trans o2
    have X2 := (X.ext hw).ext o2
    have I2 := (I1.ext hw).ext o2
    have J2 := hin2.ext o2
    clear hw o2 b1 B1 E1 X I1 hin2 H1 H2
    go_wp2_with fail
    refine (rollBegun_any _).mono ?_
    rintro e w3 ⟨rfl, hw⟩
    have E3 := E2.trans hw
    have xc := (X2.ext hw).cell
    have yc := (Y.ext hw).cell
    have I3 := I2.recs.ext hw
    have J3 := J2.recs.ext hw
    clear hw E2 X2 Y I2 J2
    go_wp2_with fail
    refine (sameWorlds_eq p q r safe a1 a2 l'.length cap1 cap2 l' _ I3 J3 hl1000).mono ?_
    rintro e w4 ⟨rfl, hw⟩
    go_wp2_with fail
    go_ret
    exact ⟨rfl, E3.trans hw⟩
  · have HX := (show Hid (xx ≠ 0) from hx)
    clear hx
    have o1 := (Ext.refl w1).alloc (.cells (wdCells noPg noPg noPg (.slice none 0 0) 0) 28)
    have X := Blk.new w1 w1.heap.size (wdCells noPg noPg noPg (.slice none 0 0) 0) 28 rfl
    have E1 := (E0.trans hw).trans o1
    have B1 := (B0.ext hw).ext o1
    clear hw o1 b0 B0 E0
    have b1 := B1.cell
    go_wp2_with fail
    refine (H2 _ E1).mono ?_
    rintro e w2 ⟨hw, ⟨hx, _⟩ | ⟨_, rfl⟩⟩
    · exact absurd hx HX.out
    have o2 := (Ext.refl w2).alloc (.cells (wdCells noPg noPg noPg (.slice none 0 0) 0) 28)
    have Y := Blk.new w2 w2.heap.size (wdCells noPg noPg noPg (.slice none 0 0) 0) 28 rfl
    have E2 := (E1.trans hw).trans o2
    have X2 := (X.ext hw).ext o2
    clear hw o2 b1 B1 E1 X H1 H2
    go_wp2_with fail
    refine (rollBegun_any _).mono ?_
    rintro e w3 ⟨rfl, hw⟩
    have E3 := E2.trans hw
    have xc := (X2.ext hw).cell
    have yc := (Y.ext hw).cell
    clear hw E2 X2 Y
    go_wp2_with fail
    refine (sameWorlds_eq noPg noPg noPg 0 none none 0 0 0 [] _ (recs_none _) (recs_none _) (by decide)).mono ?_
    rintro e w4 ⟨rfl, hw⟩
    go_wp2_with fail
    go_ret
    exact ⟨by simp, E3.trans hw⟩

set_option maxRecDepth 100000 in
theorem rollAborts_lifted (os : Os) (started : os.Started) (H : Type) (enc : TypeId × Value → H) :
    ReturnsInHanded {} Try.checked os 5 .any (Rows.rollAbortsSpec.pre6 enc Try.prog Try.f5 Rows.rollAbortsRow.domain false) (Rows.rollAbortsSpec.post enc Try.prog Try.f5 false true false false) := by
  refine returnsInHanded_of_change (C := Try.checked) own started (by kernel_rfl) Try.func5
    (ChangeSpec.witness6 (enc := enc) (C := Try.checked) false ⟨#[], #[.agg #[.int .i64 0, .int .i64 0, .int .i64 0, .int .i64 0, .int .i64 0, .int .i64 0, .int .i64 0, .int .i64 0, .int .i64 0, .int .i64 0, .int .i64 0, .int .i64 0, .slice none 0 0, .int .i64 0], .int .i64 0], []⟩ 8 (by kernel_rfl) (by kernel_rfl) (by kernel_rfl) (by kernel_rfl)) ?_
  intro W base args ds gs before hval0 hW hcnd _
  have hval : ∀ (j : Nat) t v, Try.f5.params[j]? = some t → args[j]? = some v → Value.okWide Try.prog W .any base t v := hval0
  have hW' := hW
  obtain ⟨p, q, hA0, hV, rfl, hfz, hnd⟩ := hW
  have hA : DataW.TrodAll enc Try.prog W 0 (fun _ => true) true Try.f5.params.toList args.toList ds p := hA0
  rw [Try.params5] at hA hval
  obtain ⟨v0, vs0, d0, ds0, p0, q0, hargs, rfl, rfl, h0, r0⟩ := trodAll_cons hA
  obtain ⟨v1, vs1, d1, ds1, p1, q1, rfl, rfl, rfl, h1, r1⟩ := trodAll_cons r0
  obtain ⟨rfl, rfl, rfl⟩ := trodAll_nil r1
  obtain rfl : args = #[v0, v1] := by cases args; simp_all
  obtain ⟨rfl, rfl⟩ := trodVars_none hV
  obtain ⟨P0, Q0, R0, x0, len0, cap0, l0, safe0, rfl, s0⟩ := open_wd (hval 0 28 v0 rfl rfl) h0
  obtain ⟨a1, rfl, b1⟩ := open_num (hval 1 3 v1 rfl rfl)
  clear hA0 hval0
  refine (rollAborts_go W P0 Q0 R0 x0 len0 cap0 l0 safe0 s0 a1 b1).mono fun e W' ⟨he, bel⟩ => ?_
  subst he
  exact ⟨_, rfl, _, _, _, [], _, [], hW', trodAll_mk1 (shut_bool Try.underlying4 _),
    (trodAll_cons_mk (Below.trod laidOut (by kernel_rfl) (of_decide_eq_true (by kernel_rfl)) h0 bel (lt_of_trod h0))
    (trodAll_cons_mk (Below.trod laidOut (by kernel_rfl) (of_decide_eq_true (by kernel_rfl)) h1 bel (lt_of_trod h1))
    trodAll_mk0)), rfl, bel.frame _, fun h => by cases h⟩

theorem rollAborts_over : Rows.rollAbortsRow.holds Try.pinned (OpenSpec.ofChange Rows.rollAbortsSpec) :=
  OpenClaim.holds_of_wide 5 Try.f5 rfl rfl rfl rfl rfl rfl rfl ⟨rfl, rfl, rfl, rfl, rfl⟩ rfl rfl rfl rfl rfl (by kernel_rfl) Try.func5 (by kernel_rfl)
    (of_decide_eq_true (by kernel_rfl)) (by unfold Func.isWrapper; first | (rw [if_pos (by decide +kernel)]; kernel_rfl) | (rw [if_neg (by decide +kernel)]; exact ⟨rfl, rfl⟩))
    (fun os started H enc _ => rollAborts_lifted os started H enc)
end Go.Proofs.Ytmccggfegllfnaa.B
namespace Go.Proofs.Ytmccggfegllfnaa
theorem rollAborts_holds : Rows.RollAbortsSaid := B.rollAborts_over
#print axioms rollAborts_holds
end Go.Proofs.Ytmccggfegllfnaa

