/- The contract of the reference's DoOf; both Dos as plain functions. -/
import Derived.Test.YtbfefocehnafgaaGreatAct2
import Derived.Test.YtbfefocehnafgaaGreatAnsB
import Derived.Test.YtbfefocehnafgaaGreatRoll1
import Derived.Test.YtbfefocehnafgaaGreatFlushB
import Derived.Test.YtbfefocehnafgaaGreatWork8
import Derived.Test.YtbfefocehnafgaaGreatRollB
import Derived.Test.YtbfefocehnafgaaGreatFlush4
import Derived.Test.YtbfefocehnafgaaGreatMendedA
namespace Go.Proofs.YtbfefocehnafgaaGreat.B
set_option maxRecDepth 100000
open Go.ChangeShapes Go.WideShapes Go.ChangeAt Go.RowKit

set_option maxHeartbeats 8000000 in
theorem doOf1_any (p q r : Pg) (a : Option Addr) (len cap : Nat) (safe : Int) (x : Ac) (w : World) (P Q R : Pg) (m : List Rc) (s xx : Int)
    (H : ∀ W, Ext w W → Calls Tryz.prog 33 #[wdVal p q r (.slice a len cap) safe, .int .i64 x.txn, .int .i64 x.page, .int .i64 x.cell, .int .i64 x.val] W fun e w' => Ext W w' ∧ DoW W.heap.size w' e ⟨P, Q, R, m, s⟩ xx) (hk : x.kind = 1) :
    Calls Tryz.prog 10 #[wdVal p q r (.slice a len cap) safe, x.v] w fun e w' => Ext w w' ∧ DoW w.heap.size w' e ⟨P, Q, R, m, s⟩ xx := by
  obtain ⟨xk, xt, xp, xc, xv⟩ := x
  dsimp only at hk H
  subst hk
  have E0 := (((Ext.refl w).alloc (.cells (wdCells p q r (.slice a len cap) safe) 28)).alloc (.cells (Ac.ar ⟨1, xt, xp, xc, xv⟩) 30)).alloc (.cells (wdCells noPg noPg noPg (.slice none 0 0) 0) 28)
  have B0 := ((Blk.new w w.heap.size (wdCells p q r (.slice a len cap) safe) 28 rfl).alloc (.cells (Ac.ar ⟨1, xt, xp, xc, xv⟩) 30)).alloc (.cells (wdCells noPg noPg noPg (.slice none 0 0) 0) 28)
  have B1 := (Blk.new (w.alloc (.cells (wdCells p q r (.slice a len cap) safe) 28)) (w.heap.size + 1) (Ac.ar ⟨1, xt, xp, xc, xv⟩) 30 (by simp)).alloc (.cells (wdCells noPg noPg noPg (.slice none 0 0) 0) 28)
  have B2 := Blk.new ((w.alloc (.cells (wdCells p q r (.slice a len cap) safe) 28)).alloc (.cells (Ac.ar ⟨1, xt, xp, xc, xv⟩) 30)) (w.heap.size + 1 + 1) (wdCells noPg noPg noPg (.slice none 0 0) 0) 28 (by simp)
  have hsz : w.heap.size ≤ w.heap.size + 1 + 1 := by omega
  have b0 := B0.cell
  have b1 := B1.cell
  go_enter Tryz.func10, Tryz.ntmps10
  go_wp2_with fail
  refine (H _ E0).mono ?_
  rintro e w1 ⟨hE, a', cap', rfl, hin, hfrom⟩
  dsimp only at hin hfrom ⊢
  clear b0 b1 H
  have Z1 := B2.ext hE
  have z := Z1.cell
  have f_ := Z1.fr
  have E1 := E0.trans hE
  have HIn := (show Hid _ from hin.gr (put14_gr w1 (w.heap.size + 1 + 1) (.int .i64 P.c0) (.int .i64 P.c1) (.int .i64 P.c2) (.int .i64 P.last) (.int .i64 Q.c0) (.int .i64 Q.c1) (.int .i64 Q.c2) (.int .i64 Q.last) (.int .i64 R.c0) (.int .i64 R.c1) (.int .i64 R.c2) (.int .i64 R.last) (.slice a' m.length cap') (.int .i64 s)) (fun ad e e2 => by injection e2 with e2; have := hfrom ad e; simp at this; omega))
  have HFrom : Hid (∀ ad, a' = some ad → w.heap.size ≤ ad.block) := fun ad e => by have := hfrom ad e; simp at this; omega
  have E2 := put14_ext E1 (w.heap.size + 1 + 1) (by omega) (.int .i64 P.c0) (.int .i64 P.c1) (.int .i64 P.c2) (.int .i64 P.last) (.int .i64 Q.c0) (.int .i64 Q.c1) (.int .i64 Q.c2) (.int .i64 Q.last) (.int .i64 R.c0) (.int .i64 R.c1) (.int .i64 R.c2) (.int .i64 R.last) (.slice a' m.length cap') (.int .i64 s)
  clear hin hfrom B0 B1 B2
  go_wp2_with fail
  refine bodyPost_ret (v := .tuple #[.agg (wdCells P Q R (.slice a' m.length cap') s), .int .i64 xx]) (by simp [results, Tryz.results10, go_sem, z]) rfl ⟨E2, a', cap', rfl, HIn.out, HFrom.out⟩
set_option maxHeartbeats 8000000 in
theorem doOf2_any (p q r : Pg) (a : Option Addr) (len cap : Nat) (safe : Int) (x : Ac) (w : World) (P Q R : Pg) (m : List Rc) (s xx : Int)
    (H : ∀ W, Ext w W → Calls Tryz.prog 34 #[wdVal p q r (.slice a len cap) safe, .int .i64 x.txn] W fun e w' => Ext W w' ∧ DoW W.heap.size w' e ⟨P, Q, R, m, s⟩ xx) (hk : x.kind = 2) :
    Calls Tryz.prog 10 #[wdVal p q r (.slice a len cap) safe, x.v] w fun e w' => Ext w w' ∧ DoW w.heap.size w' e ⟨P, Q, R, m, s⟩ xx := by
  obtain ⟨xk, xt, xp, xc, xv⟩ := x
  dsimp only at hk H
  subst hk
  have E0 := (((Ext.refl w).alloc (.cells (wdCells p q r (.slice a len cap) safe) 28)).alloc (.cells (Ac.ar ⟨2, xt, xp, xc, xv⟩) 30)).alloc (.cells (wdCells noPg noPg noPg (.slice none 0 0) 0) 28)
  have B0 := ((Blk.new w w.heap.size (wdCells p q r (.slice a len cap) safe) 28 rfl).alloc (.cells (Ac.ar ⟨2, xt, xp, xc, xv⟩) 30)).alloc (.cells (wdCells noPg noPg noPg (.slice none 0 0) 0) 28)
  have B1 := (Blk.new (w.alloc (.cells (wdCells p q r (.slice a len cap) safe) 28)) (w.heap.size + 1) (Ac.ar ⟨2, xt, xp, xc, xv⟩) 30 (by simp)).alloc (.cells (wdCells noPg noPg noPg (.slice none 0 0) 0) 28)
  have B2 := Blk.new ((w.alloc (.cells (wdCells p q r (.slice a len cap) safe) 28)).alloc (.cells (Ac.ar ⟨2, xt, xp, xc, xv⟩) 30)) (w.heap.size + 1 + 1) (wdCells noPg noPg noPg (.slice none 0 0) 0) 28 (by simp)
  have hsz : w.heap.size ≤ w.heap.size + 1 + 1 := by omega
  have b0 := B0.cell
  have b1 := B1.cell
  go_enter Tryz.func10, Tryz.ntmps10
  go_wp2_with fail
  refine (H _ E0).mono ?_
  rintro e w1 ⟨hE, a', cap', rfl, hin, hfrom⟩
  dsimp only at hin hfrom ⊢
  clear b0 b1 H
  have Z1 := B2.ext hE
  have z := Z1.cell
  have f_ := Z1.fr
  have E1 := E0.trans hE
  have HIn := (show Hid _ from hin.gr (put14_gr w1 (w.heap.size + 1 + 1) (.int .i64 P.c0) (.int .i64 P.c1) (.int .i64 P.c2) (.int .i64 P.last) (.int .i64 Q.c0) (.int .i64 Q.c1) (.int .i64 Q.c2) (.int .i64 Q.last) (.int .i64 R.c0) (.int .i64 R.c1) (.int .i64 R.c2) (.int .i64 R.last) (.slice a' m.length cap') (.int .i64 s)) (fun ad e e2 => by injection e2 with e2; have := hfrom ad e; simp at this; omega))
  have HFrom : Hid (∀ ad, a' = some ad → w.heap.size ≤ ad.block) := fun ad e => by have := hfrom ad e; simp at this; omega
  have E2 := put14_ext E1 (w.heap.size + 1 + 1) (by omega) (.int .i64 P.c0) (.int .i64 P.c1) (.int .i64 P.c2) (.int .i64 P.last) (.int .i64 Q.c0) (.int .i64 Q.c1) (.int .i64 Q.c2) (.int .i64 Q.last) (.int .i64 R.c0) (.int .i64 R.c1) (.int .i64 R.c2) (.int .i64 R.last) (.slice a' m.length cap') (.int .i64 s)
  clear hin hfrom B0 B1 B2
  go_wp2_with fail
  refine bodyPost_ret (v := .tuple #[.agg (wdCells P Q R (.slice a' m.length cap') s), .int .i64 xx]) (by simp [results, Tryz.results10, go_sem, z]) rfl ⟨E2, a', cap', rfl, HIn.out, HFrom.out⟩
set_option maxHeartbeats 8000000 in
theorem doOf3_any (p q r : Pg) (a : Option Addr) (len cap : Nat) (safe : Int) (x : Ac) (w : World) (P Q R : Pg) (m : List Rc) (s xx : Int)
    (H : ∀ W, Ext w W → Calls Tryz.prog 35 #[wdVal p q r (.slice a len cap) safe, .int .i64 x.txn] W fun e w' => Ext W w' ∧ DoW W.heap.size w' e ⟨P, Q, R, m, s⟩ xx) (hk : x.kind = 3) :
    Calls Tryz.prog 10 #[wdVal p q r (.slice a len cap) safe, x.v] w fun e w' => Ext w w' ∧ DoW w.heap.size w' e ⟨P, Q, R, m, s⟩ xx := by
  obtain ⟨xk, xt, xp, xc, xv⟩ := x
  dsimp only at hk H
  subst hk
  have E0 := (((Ext.refl w).alloc (.cells (wdCells p q r (.slice a len cap) safe) 28)).alloc (.cells (Ac.ar ⟨3, xt, xp, xc, xv⟩) 30)).alloc (.cells (wdCells noPg noPg noPg (.slice none 0 0) 0) 28)
  have B0 := ((Blk.new w w.heap.size (wdCells p q r (.slice a len cap) safe) 28 rfl).alloc (.cells (Ac.ar ⟨3, xt, xp, xc, xv⟩) 30)).alloc (.cells (wdCells noPg noPg noPg (.slice none 0 0) 0) 28)
  have B1 := (Blk.new (w.alloc (.cells (wdCells p q r (.slice a len cap) safe) 28)) (w.heap.size + 1) (Ac.ar ⟨3, xt, xp, xc, xv⟩) 30 (by simp)).alloc (.cells (wdCells noPg noPg noPg (.slice none 0 0) 0) 28)
  have B2 := Blk.new ((w.alloc (.cells (wdCells p q r (.slice a len cap) safe) 28)).alloc (.cells (Ac.ar ⟨3, xt, xp, xc, xv⟩) 30)) (w.heap.size + 1 + 1) (wdCells noPg noPg noPg (.slice none 0 0) 0) 28 (by simp)
  have hsz : w.heap.size ≤ w.heap.size + 1 + 1 := by omega
  have b0 := B0.cell
  have b1 := B1.cell
  go_enter Tryz.func10, Tryz.ntmps10
  go_wp2_with fail
  refine (H _ E0).mono ?_
  rintro e w1 ⟨hE, a', cap', rfl, hin, hfrom⟩
  dsimp only at hin hfrom ⊢
  clear b0 b1 H
  have Z1 := B2.ext hE
  have z := Z1.cell
  have f_ := Z1.fr
  have E1 := E0.trans hE
  have HIn := (show Hid _ from hin.gr (put14_gr w1 (w.heap.size + 1 + 1) (.int .i64 P.c0) (.int .i64 P.c1) (.int .i64 P.c2) (.int .i64 P.last) (.int .i64 Q.c0) (.int .i64 Q.c1) (.int .i64 Q.c2) (.int .i64 Q.last) (.int .i64 R.c0) (.int .i64 R.c1) (.int .i64 R.c2) (.int .i64 R.last) (.slice a' m.length cap') (.int .i64 s)) (fun ad e e2 => by injection e2 with e2; have := hfrom ad e; simp at this; omega))
  have HFrom : Hid (∀ ad, a' = some ad → w.heap.size ≤ ad.block) := fun ad e => by have := hfrom ad e; simp at this; omega
  have E2 := put14_ext E1 (w.heap.size + 1 + 1) (by omega) (.int .i64 P.c0) (.int .i64 P.c1) (.int .i64 P.c2) (.int .i64 P.last) (.int .i64 Q.c0) (.int .i64 Q.c1) (.int .i64 Q.c2) (.int .i64 Q.last) (.int .i64 R.c0) (.int .i64 R.c1) (.int .i64 R.c2) (.int .i64 R.last) (.slice a' m.length cap') (.int .i64 s)
  clear hin hfrom B0 B1 B2
  go_wp2_with fail
  refine bodyPost_ret (v := .tuple #[.agg (wdCells P Q R (.slice a' m.length cap') s), .int .i64 xx]) (by simp [results, Tryz.results10, go_sem, z]) rfl ⟨E2, a', cap', rfl, HIn.out, HFrom.out⟩
set_option maxHeartbeats 8000000 in
theorem doOf4_any (p q r : Pg) (a : Option Addr) (len cap : Nat) (safe : Int) (x : Ac) (w : World) (P Q R : Pg) (m : List Rc) (s xx : Int)
    (H : ∀ W, Ext w W → Calls Tryz.prog 36 #[wdVal p q r (.slice a len cap) safe, .int .i64 x.val] W fun e w' => Ext W w' ∧ DoW W.heap.size w' e ⟨P, Q, R, m, s⟩ xx) (hk : x.kind = 4) :
    Calls Tryz.prog 10 #[wdVal p q r (.slice a len cap) safe, x.v] w fun e w' => Ext w w' ∧ DoW w.heap.size w' e ⟨P, Q, R, m, s⟩ xx := by
  obtain ⟨xk, xt, xp, xc, xv⟩ := x
  dsimp only at hk H
  subst hk
  have E0 := (((Ext.refl w).alloc (.cells (wdCells p q r (.slice a len cap) safe) 28)).alloc (.cells (Ac.ar ⟨4, xt, xp, xc, xv⟩) 30)).alloc (.cells (wdCells noPg noPg noPg (.slice none 0 0) 0) 28)
  have B0 := ((Blk.new w w.heap.size (wdCells p q r (.slice a len cap) safe) 28 rfl).alloc (.cells (Ac.ar ⟨4, xt, xp, xc, xv⟩) 30)).alloc (.cells (wdCells noPg noPg noPg (.slice none 0 0) 0) 28)
  have B1 := (Blk.new (w.alloc (.cells (wdCells p q r (.slice a len cap) safe) 28)) (w.heap.size + 1) (Ac.ar ⟨4, xt, xp, xc, xv⟩) 30 (by simp)).alloc (.cells (wdCells noPg noPg noPg (.slice none 0 0) 0) 28)
  have B2 := Blk.new ((w.alloc (.cells (wdCells p q r (.slice a len cap) safe) 28)).alloc (.cells (Ac.ar ⟨4, xt, xp, xc, xv⟩) 30)) (w.heap.size + 1 + 1) (wdCells noPg noPg noPg (.slice none 0 0) 0) 28 (by simp)
  have hsz : w.heap.size ≤ w.heap.size + 1 + 1 := by omega
  have b0 := B0.cell
  have b1 := B1.cell
  go_enter Tryz.func10, Tryz.ntmps10
  go_wp2_with fail
  refine (H _ E0).mono ?_
  rintro e w1 ⟨hE, a', cap', rfl, hin, hfrom⟩
  dsimp only at hin hfrom ⊢
  clear b0 b1 H
  have Z1 := B2.ext hE
  have z := Z1.cell
  have f_ := Z1.fr
  have E1 := E0.trans hE
  have HIn := (show Hid _ from hin.gr (put14_gr w1 (w.heap.size + 1 + 1) (.int .i64 P.c0) (.int .i64 P.c1) (.int .i64 P.c2) (.int .i64 P.last) (.int .i64 Q.c0) (.int .i64 Q.c1) (.int .i64 Q.c2) (.int .i64 Q.last) (.int .i64 R.c0) (.int .i64 R.c1) (.int .i64 R.c2) (.int .i64 R.last) (.slice a' m.length cap') (.int .i64 s)) (fun ad e e2 => by injection e2 with e2; have := hfrom ad e; simp at this; omega))
  have HFrom : Hid (∀ ad, a' = some ad → w.heap.size ≤ ad.block) := fun ad e => by have := hfrom ad e; simp at this; omega
  have E2 := put14_ext E1 (w.heap.size + 1 + 1) (by omega) (.int .i64 P.c0) (.int .i64 P.c1) (.int .i64 P.c2) (.int .i64 P.last) (.int .i64 Q.c0) (.int .i64 Q.c1) (.int .i64 Q.c2) (.int .i64 Q.last) (.int .i64 R.c0) (.int .i64 R.c1) (.int .i64 R.c2) (.int .i64 R.last) (.slice a' m.length cap') (.int .i64 s)
  clear hin hfrom B0 B1 B2
  go_wp2_with fail
  refine bodyPost_ret (v := .tuple #[.agg (wdCells P Q R (.slice a' m.length cap') s), .int .i64 xx]) (by simp [results, Tryz.results10, go_sem, z]) rfl ⟨E2, a', cap', rfl, HIn.out, HFrom.out⟩
set_option maxHeartbeats 8000000 in
theorem doOf5_any (p q r : Pg) (a : Option Addr) (len cap : Nat) (safe : Int) (x : Ac) (w : World) (P Q R : Pg) (m : List Rc) (s xx : Int)
    (H : ∀ W, Ext w W → Calls Tryz.prog 37 #[wdVal p q r (.slice a len cap) safe, .int .i64 x.page] W fun e w' => Ext W w' ∧ DoW W.heap.size w' e ⟨P, Q, R, m, s⟩ xx) (hk : x.kind = 5) :
    Calls Tryz.prog 10 #[wdVal p q r (.slice a len cap) safe, x.v] w fun e w' => Ext w w' ∧ DoW w.heap.size w' e ⟨P, Q, R, m, s⟩ xx := by
  obtain ⟨xk, xt, xp, xc, xv⟩ := x
  dsimp only at hk H
  subst hk
  have E0 := (((Ext.refl w).alloc (.cells (wdCells p q r (.slice a len cap) safe) 28)).alloc (.cells (Ac.ar ⟨5, xt, xp, xc, xv⟩) 30)).alloc (.cells (wdCells noPg noPg noPg (.slice none 0 0) 0) 28)
  have B0 := ((Blk.new w w.heap.size (wdCells p q r (.slice a len cap) safe) 28 rfl).alloc (.cells (Ac.ar ⟨5, xt, xp, xc, xv⟩) 30)).alloc (.cells (wdCells noPg noPg noPg (.slice none 0 0) 0) 28)
  have B1 := (Blk.new (w.alloc (.cells (wdCells p q r (.slice a len cap) safe) 28)) (w.heap.size + 1) (Ac.ar ⟨5, xt, xp, xc, xv⟩) 30 (by simp)).alloc (.cells (wdCells noPg noPg noPg (.slice none 0 0) 0) 28)
  have B2 := Blk.new ((w.alloc (.cells (wdCells p q r (.slice a len cap) safe) 28)).alloc (.cells (Ac.ar ⟨5, xt, xp, xc, xv⟩) 30)) (w.heap.size + 1 + 1) (wdCells noPg noPg noPg (.slice none 0 0) 0) 28 (by simp)
  have hsz : w.heap.size ≤ w.heap.size + 1 + 1 := by omega
  have b0 := B0.cell
  have b1 := B1.cell
  go_enter Tryz.func10, Tryz.ntmps10
  go_wp2_with fail
  refine (H _ E0).mono ?_
  rintro e w1 ⟨hE, a', cap', rfl, hin, hfrom⟩
  dsimp only at hin hfrom ⊢
  clear b0 b1 H
  have Z1 := B2.ext hE
  have z := Z1.cell
  have f_ := Z1.fr
  have E1 := E0.trans hE
  have HIn := (show Hid _ from hin.gr (put14_gr w1 (w.heap.size + 1 + 1) (.int .i64 P.c0) (.int .i64 P.c1) (.int .i64 P.c2) (.int .i64 P.last) (.int .i64 Q.c0) (.int .i64 Q.c1) (.int .i64 Q.c2) (.int .i64 Q.last) (.int .i64 R.c0) (.int .i64 R.c1) (.int .i64 R.c2) (.int .i64 R.last) (.slice a' m.length cap') (.int .i64 s)) (fun ad e e2 => by injection e2 with e2; have := hfrom ad e; simp at this; omega))
  have HFrom : Hid (∀ ad, a' = some ad → w.heap.size ≤ ad.block) := fun ad e => by have := hfrom ad e; simp at this; omega
  have E2 := put14_ext E1 (w.heap.size + 1 + 1) (by omega) (.int .i64 P.c0) (.int .i64 P.c1) (.int .i64 P.c2) (.int .i64 P.last) (.int .i64 Q.c0) (.int .i64 Q.c1) (.int .i64 Q.c2) (.int .i64 Q.last) (.int .i64 R.c0) (.int .i64 R.c1) (.int .i64 R.c2) (.int .i64 R.last) (.slice a' m.length cap') (.int .i64 s)
  clear hin hfrom B0 B1 B2
  go_wp2_with fail
  refine bodyPost_ret (v := .tuple #[.agg (wdCells P Q R (.slice a' m.length cap') s), .int .i64 xx]) (by simp [results, Tryz.results10, go_sem, z]) rfl ⟨E2, a', cap', rfl, HIn.out, HFrom.out⟩
set_option maxHeartbeats 8000000 in
theorem doOf6_any (p q r : Pg) (a : Option Addr) (len cap : Nat) (safe : Int) (x : Ac) (w : World) (P Q R : Pg) (m : List Rc) (s xx : Int) (n : Int)
    (H : ∀ W, Ext w W → Calls Tryz.prog 38 #[wdVal p q r (.slice a len cap) safe] W fun e w' => Ext W w' ∧ ∃ a' cap', e = .returned (.tuple #[wdVal P Q R (.slice a' m.length cap') s, .int .i64 n, .int .i64 xx]) ∧ LogIn w' a' m.length cap' m ∧ ∀ ad, a' = some ad → W.heap.size ≤ ad.block) (hk : x.kind = 6) :
    Calls Tryz.prog 10 #[wdVal p q r (.slice a len cap) safe, x.v] w fun e w' => Ext w w' ∧ DoW w.heap.size w' e ⟨P, Q, R, m, s⟩ xx := by
  obtain ⟨xk, xt, xp, xc, xv⟩ := x
  dsimp only at hk H
  subst hk
  have E0 := (((Ext.refl w).alloc (.cells (wdCells p q r (.slice a len cap) safe) 28)).alloc (.cells (Ac.ar ⟨6, xt, xp, xc, xv⟩) 30)).alloc (.cells (wdCells noPg noPg noPg (.slice none 0 0) 0) 28)
  have B0 := ((Blk.new w w.heap.size (wdCells p q r (.slice a len cap) safe) 28 rfl).alloc (.cells (Ac.ar ⟨6, xt, xp, xc, xv⟩) 30)).alloc (.cells (wdCells noPg noPg noPg (.slice none 0 0) 0) 28)
  have B1 := (Blk.new (w.alloc (.cells (wdCells p q r (.slice a len cap) safe) 28)) (w.heap.size + 1) (Ac.ar ⟨6, xt, xp, xc, xv⟩) 30 (by simp)).alloc (.cells (wdCells noPg noPg noPg (.slice none 0 0) 0) 28)
  have B2 := Blk.new ((w.alloc (.cells (wdCells p q r (.slice a len cap) safe) 28)).alloc (.cells (Ac.ar ⟨6, xt, xp, xc, xv⟩) 30)) (w.heap.size + 1 + 1) (wdCells noPg noPg noPg (.slice none 0 0) 0) 28 (by simp)
  have hsz : w.heap.size ≤ w.heap.size + 1 + 1 := by omega
  have b0 := B0.cell
  have b1 := B1.cell
  go_enter Tryz.func10, Tryz.ntmps10
  go_wp2_with fail
  refine (H _ E0).mono ?_
  rintro e w1 ⟨hE, a', cap', rfl, hin, hfrom⟩
  clear b0 b1 H
  have Z1 := B2.ext hE
  have X1 := Blk.new w1 w1.heap.size (wdCells P Q R (.slice a' m.length cap') s) 28 rfl
  have z := Z1.cell
  have f_ := Z1.fr
  have hzx := Z1.lt
  have E1 := E0.trans hE
  have G2 := put14_gr w1 (w.heap.size + 1 + 1) (.int .i64 P.c0) (.int .i64 P.c1) (.int .i64 P.c2) (.int .i64 P.last) (.int .i64 Q.c0) (.int .i64 Q.c1) (.int .i64 Q.c2) (.int .i64 Q.last) (.int .i64 R.c0) (.int .i64 R.c1) (.int .i64 R.c2) (.int .i64 R.last) (.slice a' m.length cap') (.int .i64 s)
  have E2 := (put14_ext E1 (w.heap.size + 1 + 1) (by omega) (.int .i64 P.c0) (.int .i64 P.c1) (.int .i64 P.c2) (.int .i64 P.last) (.int .i64 Q.c0) (.int .i64 Q.c1) (.int .i64 Q.c2) (.int .i64 Q.last) (.int .i64 R.c0) (.int .i64 R.c1) (.int .i64 R.c2) (.int .i64 R.last) (.slice a' m.length cap') (.int .i64 s)).alloc (.cells (wdCells P Q R (.slice a' m.length cap') s) 28)
  have HIn := (show Hid _ from (hin.gr G2 (fun ad e e2 => by injection e2 with e2; have := hfrom ad e; simp at this; omega)).ext ((Ext.refl _).alloc (.cells (wdCells P Q R (.slice a' m.length cap') s) 28)))
  have HFrom : Hid (∀ ad, a' = some ad → w.heap.size ≤ ad.block) := fun ad e => by have := hfrom ad e; simp at this; omega
  have x1 := X1.cell
  have ZF := (put14_blk Z1 (.int .i64 P.c0) (.int .i64 P.c1) (.int .i64 P.c2) (.int .i64 P.last) (.int .i64 Q.c0) (.int .i64 Q.c1) (.int .i64 Q.c2) (.int .i64 Q.last) (.int .i64 R.c0) (.int .i64 R.c1) (.int .i64 R.c2) (.int .i64 R.last) (.slice a' m.length cap') (.int .i64 s)).alloc (.cells (wdCells P Q R (.slice a' m.length cap') s) 28)
  clear hin hfrom B0 B1 B2 G2
  go_wp2_with fail
  have zf := ZF.cell
  clear z f_ x1
  refine bodyPost_ret (v := .tuple #[.agg (wdCells P Q R (.slice a' m.length cap') s), .int .i64 xx]) (by simp [results, Tryz.results10, go_sem, zf]) rfl ⟨E2, a', cap', rfl, HIn.out, HFrom.out⟩
set_option maxHeartbeats 8000000 in
theorem doOf_none (p q r : Pg) (a : Option Addr) (len cap : Nat) (safe : Int) (x : Ac) (w : World) (k1 : (x.kind == 1) = false) (k2 : (x.kind == 2) = false) (k3 : (x.kind == 3) = false) (k4 : (x.kind == 4) = false) (k5 : (x.kind == 5) = false) (k6 : (x.kind == 6) = false) :
    Calls Tryz.prog 10 #[wdVal p q r (.slice a len cap) safe, x.v] w fun e w' => Ext w w' ∧ DoW w.heap.size w' e noWd 4 := by
  have E0 := (((Ext.refl w).alloc (.cells (wdCells p q r (.slice a len cap) safe) 28)).alloc (.cells x.ar 30)).alloc (.cells (wdCells noPg noPg noPg (.slice none 0 0) 0) 28)
  have B0 := ((Blk.new w w.heap.size (wdCells p q r (.slice a len cap) safe) 28 rfl).alloc (.cells x.ar 30)).alloc (.cells (wdCells noPg noPg noPg (.slice none 0 0) 0) 28)
  have B1 := (Blk.new (w.alloc (.cells (wdCells p q r (.slice a len cap) safe) 28)) (w.heap.size + 1) x.ar 30 (by simp)).alloc (.cells (wdCells noPg noPg noPg (.slice none 0 0) 0) 28)
  have B2 := Blk.new ((w.alloc (.cells (wdCells p q r (.slice a len cap) safe) 28)).alloc (.cells x.ar 30)) (w.heap.size + 1 + 1) (wdCells noPg noPg noPg (.slice none 0 0) 0) 28 (by simp)
  have hsz : w.heap.size ≤ w.heap.size + 1 + 1 := by omega
  have b1 := B1.cell
  have z := B2.cell
  have f_ := B2.fr
  clear B0 B1 B2
  go_enter Tryz.func10, Tryz.ntmps10
  go_wp2_with fail
  refine bodyPost_ret (v := .tuple #[.agg (wdCells noPg noPg noPg (.slice none 0 0) 0), .int .i64 4]) (by simp [results, Tryz.results10, go_sem, z]) rfl ⟨E0, none, 0, rfl, logIn_none _, fun _ e => by cases e⟩
theorem AllAns.all2 {base : Nat} {w' : World} {e : Ending} {p q r : Pg} {x : Int} {n : Nat} {l' : List Rc} {s : Int} (h : AllAns base w' e p q r x n l' s) :
    ∃ a cap, e = .returned (.tuple #[wdVal (ansP x p) (ansP x q) (ansP x r) (.slice a (ansL x l').length cap) (ansS x s), .int .i64 (ansS x (n : Nat)), .int .i64 x]) ∧ LogIn w' a (ansL x l').length cap (ansL x l') ∧ ∀ ad, a = some ad → base ≤ ad.block := by
  unfold ansP ansL ansS
  rcases h with ⟨rfl, a, cap, rfl, hin, hf⟩ | ⟨hx, rfl⟩
  · exact ⟨a, cap, rfl, hin, hf⟩
  · simp only [if_neg hx]
    exact ⟨none, 0, rfl, logIn_none _, fun _ e => by cases e⟩
theorem refMended_any (p q r : Pg) (a : Option Addr) (len cap : Nat) (l : List Rc) (safe : Int) (w : World) (h : LogIn w a len cap l) :
    Calls Tryz.prog 75 #[wdVal p q r (.slice a len cap) safe, .int .i64 (-1), .agg #[.bool true, .bool true, .bool true]] w fun e w' => Ext w w' ∧
      AllAns w.heap.size w' e (pgAt (pagesR (mendR (l.take safe.toNat))) 0) (pgAt (pagesR (mendR (l.take safe.toNat))) 1) (pgAt (pagesR (mendR (l.take safe.toNat))) 2) (errOf (worldErr p q r l safe) (mendErr (l.take safe.toNat))) (needR (l.take safe.toNat)) (mendR (l.take safe.toNat)) ((mendR (l.take safe.toNat)).length : Nat) := by
  by_cases hz : worldErr p q r l safe = 0
  · have := refMended_ok p q r a len cap l safe w h hz
    unfold errOf
    rw [if_pos hz]
    exact this
  · have := refMended_no p q r a len cap l safe w h hz
    unfold errOf
    rw [if_neg hz]
    exact this.mono fun e w' ⟨h1, h2⟩ => ⟨h1, Or.inr ⟨hz, h2⟩⟩
set_option maxHeartbeats 8000000 in
theorem refMendAll_new (p q r : Pg) (a : Option Addr) (len cap : Nat) (safe : Int) (w : World) (P Q R : Pg) (x : Int) (n : Int) (m : List Rc) (s : Int)
    (H : ∀ W, Ext w W → Calls Tryz.prog 75 #[wdVal p q r (.slice a len cap) safe, .int .i64 (-1), .agg #[.bool true, .bool true, .bool true]] W fun e w' => Ext W w' ∧ ∃ a' cap', e = .returned (.tuple #[wdVal P Q R (.slice a' m.length cap') s, .int .i64 n, .int .i64 x]) ∧ LogIn w' a' m.length cap' m ∧ ∀ ad, a' = some ad → W.heap.size ≤ ad.block) :
    Calls Tryz.prog 38 #[wdVal p q r (.slice a len cap) safe] w fun e w' => Ext w w' ∧ ∃ a' cap', e = .returned (.tuple #[wdVal P Q R (.slice a' m.length cap') s, .int .i64 n, .int .i64 x]) ∧ LogIn w' a' m.length cap' m ∧ ∀ ad, a' = some ad → w.heap.size ≤ ad.block := by
  have E0 := ((Ext.refl w).alloc (.cells (wdCells p q r (.slice a len cap) safe) 28)).alloc (.cells (wdCells noPg noPg noPg (.slice none 0 0) 0) 28)
  have B0 := (Blk.new w w.heap.size (wdCells p q r (.slice a len cap) safe) 28 rfl).alloc (.cells (wdCells noPg noPg noPg (.slice none 0 0) 0) 28)
  have N0 := Blk.new (w.alloc (.cells (wdCells p q r (.slice a len cap) safe) 28)) (w.heap.size + 1) (wdCells noPg noPg noPg (.slice none 0 0) 0) 28 (by simp)
  go_enter Tryz.func38, Tryz.ntmps38
  have b0 := B0.cell
  have hb := N0.lt
  go_wp2_with fail
  refine (H _ E0).mono ?_
  rintro e w2 ⟨hw, a2, cap2, rfl, L2, hF⟩
  have E2 := E0.trans hw
  have N2 := N0.ext hw
  have n_ := N2.cell
  have f_ := N2.fr
  have E9 := put14_ext E2 (w.heap.size + 1) (by omega) (.int .i64 P.c0) (.int .i64 P.c1) (.int .i64 P.c2) (.int .i64 P.last) (.int .i64 Q.c0) (.int .i64 Q.c1) (.int .i64 Q.c2) (.int .i64 Q.last) (.int .i64 R.c0) (.int .i64 R.c1) (.int .i64 R.c2) (.int .i64 R.last) (.slice a2 m.length cap2) (.int .i64 s)
  have G9 := put14_gr w2 (w.heap.size + 1) (.int .i64 P.c0) (.int .i64 P.c1) (.int .i64 P.c2) (.int .i64 P.last) (.int .i64 Q.c0) (.int .i64 Q.c1) (.int .i64 Q.c2) (.int .i64 Q.last) (.int .i64 R.c0) (.int .i64 R.c1) (.int .i64 R.c2) (.int .i64 R.last) (.slice a2 m.length cap2) (.int .i64 s)
  have HL9 := (show Hid _ from L2.gr G9 (fun ad e e2 => by injection e2 with e2; have := hF ad e; omega))
  have HF : Hid (∀ ad, a2 = some ad → w.heap.size ≤ ad.block) := fun ad e => by have := hF ad e; simp at this; omega
  clear G9 b0 B0 N0 E0 H hw hF L2
  go_wp2_with fail
  refine bodyPost_ret (v := .tuple #[.agg (wdCells P Q R (.slice a2 m.length cap2) s), .int .i64 n, .int .i64 x]) (by simp [results, Tryz.results38, go_sem, n_]) rfl ⟨E9, a2, cap2, rfl, HL9.out, HF.out⟩
/-- What an act of a kind has as its error, and leaves. -/
theorem do_k1 {W : Wd} {x : Ac} (h : x.kind = 1) : doErr W x = errOf W.err (writeErr W.l x.txn x.page x.cell x.val) ∧ doTo W x = ⟨W.p, W.q, W.r, W.l ++ [writeRec W.l x.txn x.page x.cell x.val], W.safe⟩ := by
  unfold doErr doTo; simp [h]
theorem do_k2 {W : Wd} {x : Ac} (h : x.kind = 2) : doErr W x = errOf W.err (commitErr W.l x.txn) ∧ doTo W x = ⟨W.p, W.q, W.r, (W.l ++ [commitRec W.l x.txn]) ++ [endRec W.l x.txn], ((W.l.length + 1 : Nat) : Int)⟩ := by
  unfold doErr doTo; simp [h]
theorem do_k3 {W : Wd} {x : Ac} (h : x.kind = 3) : doErr W x = errOf W.err (abortErr W.l x.txn) ∧ doTo W x = ⟨W.p, W.q, W.r, abortR W.l x.txn, W.safe⟩ := by
  unfold doErr doTo; simp [h]
theorem do_k4 {W : Wd} {x : Ac} (h : x.kind = 4) : doErr W x = errOf W.err (syncErr W.l x.val) ∧ doTo W x = ⟨W.p, W.q, W.r, W.l, maxI W.safe x.val⟩ := by
  unfold doErr doTo; simp [h]
theorem do_k5 {W : Wd} {x : Ac} (h : x.kind = 5) : doErr W x = errOf W.err (pageErr x.page) ∧ doTo W x = ⟨layPg W.l x.page 0 W.p, layPg W.l x.page 1 W.q, layPg W.l x.page 2 W.r, W.l, laySafe W.l W.safe x.page⟩ := by
  unfold doErr doTo; simp [h]
theorem do_k6 {W : Wd} {x : Ac} (h : x.kind = 6) : doErr W x = errOf W.err (mendErr W.cut) ∧ doTo W x = mendWd W := by
  unfold doErr doTo; simp [h]
theorem do_k0 {W : Wd} {x : Ac} (h1 : x.kind ≠ 1) (h2 : x.kind ≠ 2) (h3 : x.kind ≠ 3) (h4 : x.kind ≠ 4) (h5 : x.kind ≠ 5) (h6 : x.kind ≠ 6) : doErr W x = 4 ∧ doV W x = noWd := by
  have : doErr W x = 4 := by unfold doErr; simp [h1, h2, h3, h4, h5, h6]
  exact ⟨this, by unfold doV; rw [this, if_neg (by decide)]⟩
theorem find_kind (k : Int) : findI (fun q => k == q) deedsL 0 = if k = 1 then some (0, deedV 60) else if k = 2 then some (1, deedV 62) else if k = 3 then some (2, deedV 63) else if k = 4 then some (3, deedV 65) else if k = 5 then some (4, deedV 67) else if k = 6 then some (5, deedV 69) else none := by
  simp only [findI, deedsL, beq_iff_eq]
theorem AllAns.dw3 {base : Nat} {w' : World} {e : Ending} {p q r : Pg} {x : Int} {n : Nat} {l' : List Rc} {s : Int} (h : AllAns base w' e p q r x n l' s) :
    ∃ a cap, e = .returned (.tuple #[wdVal (if x = 0 then (⟨p, q, r, l', s⟩ : Wd) else noWd).p (if x = 0 then (⟨p, q, r, l', s⟩ : Wd) else noWd).q (if x = 0 then (⟨p, q, r, l', s⟩ : Wd) else noWd).r (.slice a (if x = 0 then (⟨p, q, r, l', s⟩ : Wd) else noWd).l.length cap) (if x = 0 then (⟨p, q, r, l', s⟩ : Wd) else noWd).safe, .int .i64 (ansS x (n : Nat)), .int .i64 x]) ∧
      LogIn w' a (if x = 0 then (⟨p, q, r, l', s⟩ : Wd) else noWd).l.length cap (if x = 0 then (⟨p, q, r, l', s⟩ : Wd) else noWd).l ∧ ∀ ad, a = some ad → base ≤ ad.block := by
  unfold ansS
  rcases h with ⟨rfl, a, cap, rfl, hin, hf⟩ | ⟨hx, rfl⟩
  · exact ⟨a, cap, rfl, hin, hf⟩
  · simp only [if_neg hx]
    exact ⟨none, 0, rfl, logIn_none _, fun _ e => by cases e⟩
/-- act.Do, as a plain function. -/
theorem actDo_any (W : Wd) (a : Option Addr) (len cap : Nat) (x : Ac) (w : World) (h : LogIn w a len cap W.l) :
    Calls Tryz.prog 9 #[wdVal W.p W.q W.r (.slice a len cap) W.safe, x.v] w fun e w' => Ext w w' ∧ DoW w.heap.size w' e (doV W x) (doErr W x) := by
  by_cases h1 : x.kind = 1
  · obtain ⟨e1, e2⟩ := do_k1 (W := W) h1
    unfold doV; rw [e1, e2]
    exact actDo_some 0 60 W.p W.q W.r a len cap W.safe x w _ _ _ _ _ _ (by rw [find_kind]; simp [h1]) (fun args w => callFunc_enter args w Tryz.func60 (by kernel_rfl) (by kernel_rfl)) (fun V E => deed1_any W.p W.q W.r a len cap W.safe x V _ _ _ _ _ _ (fun W' e => (workWrite_any W.p W.q W.r a len cap W.l W.safe x.txn x.page x.cell x.val W' (h.ext (E.trans e))).mono fun _ _ ⟨z1, z2⟩ => And.intro z1 z2.dw))
  by_cases h2 : x.kind = 2
  · obtain ⟨e1, e2⟩ := do_k2 (W := W) h2
    unfold doV; rw [e1, e2]
    exact actDo_some 1 62 W.p W.q W.r a len cap W.safe x w _ _ _ _ _ _ (by rw [find_kind]; simp [h2]) (fun args w => callFunc_enter args w Tryz.func62 (by kernel_rfl) (by kernel_rfl)) (fun V E => deed2_any W.p W.q W.r a len cap W.safe x V _ _ _ _ _ _ (fun W' e => (workCommit_any W.p W.q W.r a len cap W.l W.safe x.txn W' (h.ext (E.trans e))).mono fun _ _ ⟨z1, z2⟩ => And.intro z1 z2.dw))
  by_cases h3 : x.kind = 3
  · obtain ⟨e1, e2⟩ := do_k3 (W := W) h3
    unfold doV; rw [e1, e2]
    exact actDo_some 2 63 W.p W.q W.r a len cap W.safe x w _ _ _ _ _ _ (by rw [find_kind]; simp [h3]) (fun args w => callFunc_enter args w Tryz.func63 (by kernel_rfl) (by kernel_rfl)) (fun V E => deed3_any W.p W.q W.r a len cap W.safe x V _ _ _ _ _ _ (fun W' e => (rollAbort_any W.p W.q W.r a len cap W.l W.safe x.txn W' (h.ext (E.trans e))).mono fun _ _ ⟨z1, z2⟩ => And.intro z1 z2.dw))
  by_cases h4 : x.kind = 4
  · obtain ⟨e1, e2⟩ := do_k4 (W := W) h4
    unfold doV; rw [e1, e2]
    exact actDo_some 3 65 W.p W.q W.r a len cap W.safe x w _ _ _ _ _ _ (by rw [find_kind]; simp [h4]) (fun args w => callFunc_enter args w Tryz.func65 (by kernel_rfl) (by kernel_rfl)) (fun V E => deed4_any W.p W.q W.r a len cap W.safe x V _ _ _ _ _ _ (fun W' e => (flushSync_any W.p W.q W.r a len cap W.l W.safe x.val W' (h.ext (E.trans e))).mono fun _ _ ⟨z1, z2⟩ => And.intro z1 z2.dw))
  by_cases h5 : x.kind = 5
  · obtain ⟨e1, e2⟩ := do_k5 (W := W) h5
    unfold doV; rw [e1, e2]
    exact actDo_some 4 67 W.p W.q W.r a len cap W.safe x w _ _ _ _ _ _ (by rw [find_kind]; simp [h5]) (fun args w => callFunc_enter args w Tryz.func67 (by kernel_rfl) (by kernel_rfl)) (fun V E => deed5_any W.p W.q W.r a len cap W.safe x V _ _ _ _ _ _ (fun W' e => (flushPage_any W.p W.q W.r a len cap W.l W.safe x.page W' (h.ext (E.trans e))).mono fun _ _ ⟨z1, z2⟩ => And.intro z1 z2.dw))
  by_cases h6 : x.kind = 6
  · obtain ⟨e1, e2⟩ := do_k6 (W := W) h6
    unfold doV; rw [e1, e2]
    exact actDo_some 5 69 W.p W.q W.r a len cap W.safe x w _ _ _ _ _ _ (by rw [find_kind]; simp [h6]) (fun args w => callFunc_enter args w Tryz.func69 (by kernel_rfl) (by kernel_rfl)) (fun V E => deed6_any W.p W.q W.r a len cap W.safe x V _ _ _ _ _ _ _ (fun W' e => (mendAll_any W.p W.q W.r a len cap W.l W.safe W' (h.ext (E.trans e))).mono fun _ _ ⟨z1, z2⟩ => And.intro z1 z2.dw3))
  obtain ⟨e1, e2⟩ := do_k0 (W := W) h1 h2 h3 h4 h5 h6
  rw [e1, e2]
  exact actDo_none W.p W.q W.r a len cap W.safe x w (by rw [find_kind]; simp [h1, h2, h3, h4, h5, h6])
/-- DoOf, as a plain function. -/
theorem doOf_any (W : Wd) (a : Option Addr) (len cap : Nat) (x : Ac) (w : World) (h : LogIn w a len cap W.l) :
    Calls Tryz.prog 10 #[wdVal W.p W.q W.r (.slice a len cap) W.safe, x.v] w fun e w' => Ext w w' ∧ DoW w.heap.size w' e (doV W x) (doErr W x) := by
  by_cases h1 : x.kind = 1
  · obtain ⟨e1, e2⟩ := do_k1 (W := W) h1
    unfold doV; rw [e1, e2]
    exact doOf1_any W.p W.q W.r a len cap W.safe x w _ _ _ _ _ _ (fun W' e => (writeTo_any W.p W.q W.r a len cap W.l W.safe x.txn x.page x.cell x.val W' (h.ext e)).mono fun _ _ ⟨z1, z2⟩ => And.intro z1 z2.dw) h1
  by_cases h2 : x.kind = 2
  · obtain ⟨e1, e2⟩ := do_k2 (W := W) h2
    unfold doV; rw [e1, e2]
    exact doOf2_any W.p W.q W.r a len cap W.safe x w _ _ _ _ _ _ (fun W' e => (commitOf_any W.p W.q W.r a len cap W.l W.safe x.txn W' (h.ext e)).mono fun _ _ ⟨z1, z2⟩ => And.intro z1 z2.dw) h2
  by_cases h3 : x.kind = 3
  · obtain ⟨e1, e2⟩ := do_k3 (W := W) h3
    unfold doV; rw [e1, e2]
    exact doOf3_any W.p W.q W.r a len cap W.safe x w _ _ _ _ _ _ (fun W' e => (abortOf_any W.p W.q W.r a len cap W.l W.safe x.txn W' (h.ext e)).mono fun _ _ ⟨z1, z2⟩ => And.intro z1 z2.dw) h3
  by_cases h4 : x.kind = 4
  · obtain ⟨e1, e2⟩ := do_k4 (W := W) h4
    unfold doV; rw [e1, e2]
    exact doOf4_any W.p W.q W.r a len cap W.safe x w _ _ _ _ _ _ (fun W' e => (syncOf_any W.p W.q W.r a len cap W.l W.safe x.val W' (h.ext e)).mono fun _ _ ⟨z1, z2⟩ => And.intro z1 z2.dw) h4
  by_cases h5 : x.kind = 5
  · obtain ⟨e1, e2⟩ := do_k5 (W := W) h5
    unfold doV; rw [e1, e2]
    exact doOf5_any W.p W.q W.r a len cap W.safe x w _ _ _ _ _ _ (fun W' e => (flushOf_any W.p W.q W.r a len cap W.l W.safe x.page W' (h.ext e)).mono fun _ _ ⟨z1, z2⟩ => And.intro z1 z2.dw) h5
  by_cases h6 : x.kind = 6
  · obtain ⟨e1, e2⟩ := do_k6 (W := W) h6
    unfold doV; rw [e1, e2]
    exact doOf6_any W.p W.q W.r a len cap W.safe x w _ _ _ _ _ _ _ (fun W' e => refMendAll_new W.p W.q W.r a len cap W.safe W' _ _ _ _ _ _ _ (fun W2 e2 => (refMended_any W.p W.q W.r a len cap W.l W.safe W2 (h.ext (e.trans e2))).mono fun _ _ ⟨z1, z2⟩ => And.intro z1 z2.dw3)) h6
  obtain ⟨e1, e2⟩ := do_k0 (W := W) h1 h2 h3 h4 h5 h6
  rw [e1, e2]
  exact doOf_none W.p W.q W.r a len cap W.safe x w (by simp [h1]) (by simp [h2]) (by simp [h3]) (by simp [h4]) (by simp [h5]) (by simp [h6])
end Go.Proofs.YtbfefocehnafgaaGreat.B
