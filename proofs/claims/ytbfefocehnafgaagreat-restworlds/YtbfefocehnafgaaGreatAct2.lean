/- The contract of act.Do: what each deed does, and which is done. -/
import Derived.Test.YtbfefocehnafgaaGreatAct1
namespace Go.Proofs.YtbfefocehnafgaaGreat.B
set_option maxRecDepth 100000
open Go.ChangeShapes Go.WideShapes Go.ChangeAt Go.RowKit

/-- What a call answers that makes a world: a world (no world, with an error), and the error. -/
def DoW (base : Nat) (w' : World) (e : Ending) (v : Wd) (x : Int) : Prop :=
  ∃ a cap, e = .returned (.tuple #[wdVal v.p v.q v.r (.slice a v.l.length cap) v.safe, .int .i64 x]) ∧ LogIn w' a v.l.length cap v.l ∧ ∀ ad, a = some ad → base ≤ ad.block
theorem logIn_none (w : World) : LogIn w none 0 0 [] := ⟨recs_none _, Nat.le_refl _, Nat.zero_le _, fun _ => rfl, fun ad e => by cases e⟩
theorem WorkAns.dw {base : Nat} {w' : World} {e : Ending} {p q r : Pg} {x : Int} {l' : List Rc} {s : Int} (h : WorkAns base w' e p q r x l' s) : DoW base w' e (if x = 0 then ⟨p, q, r, l', s⟩ else noWd) x := by
  rcases h with ⟨rfl, a, cap, rfl, hin, hf⟩ | ⟨hx, rfl⟩
  · exact ⟨a, cap, rfl, hin, hf⟩
  · rw [if_neg hx]
    exact ⟨none, 0, rfl, logIn_none _, fun _ e => by cases e⟩
/-- The world that an act leaves; no world, if it has an error. -/
def doV (w : Wd) (x : Ac) : Wd := if doErr w x = 0 then doTo w x else noWd
abbrev Ac.ar (x : Ac) : Array Value := #[.int .i64 x.kind, .int .i64 x.txn, .int .i64 x.page, .int .i64 x.cell, .int .i64 x.val]
set_option maxHeartbeats 8000000 in
theorem deed1_any (p q r : Pg) (a : Option Addr) (len cap : Nat) (safe : Int) (x : Ac) (w : World) (P Q R : Pg) (m : List Rc) (s xx : Int)
    (H : ∀ W, Ext w W → Calls Tryz.prog 61 #[wdVal p q r (.slice a len cap) safe, .int .i64 x.txn, .int .i64 x.page, .int .i64 x.cell, .int .i64 x.val] W fun e w' => Ext W w' ∧ DoW W.heap.size w' e ⟨P, Q, R, m, s⟩ xx) :
    Calls Tryz.prog 60 #[wdVal p q r (.slice a len cap) safe, x.v] w fun e w' => Ext w w' ∧ DoW w.heap.size w' e ⟨P, Q, R, m, s⟩ xx := by
  have E0 := (((Ext.refl w).alloc (.cells (wdCells p q r (.slice a len cap) safe) 28)).alloc (.cells x.ar 30)).alloc (.cells (wdCells noPg noPg noPg (.slice none 0 0) 0) 28)
  have B0 := ((Blk.new w w.heap.size (wdCells p q r (.slice a len cap) safe) 28 rfl).alloc (.cells x.ar 30)).alloc (.cells (wdCells noPg noPg noPg (.slice none 0 0) 0) 28)
  have B1 := (Blk.new (w.alloc (.cells (wdCells p q r (.slice a len cap) safe) 28)) (w.heap.size + 1) x.ar 30 (by simp)).alloc (.cells (wdCells noPg noPg noPg (.slice none 0 0) 0) 28)
  have B2 := Blk.new ((w.alloc (.cells (wdCells p q r (.slice a len cap) safe) 28)).alloc (.cells x.ar 30)) (w.heap.size + 1 + 1) (wdCells noPg noPg noPg (.slice none 0 0) 0) 28 (by simp)
  have hsz : w.heap.size ≤ w.heap.size + 1 + 1 := by omega
  have b0 := B0.cell
  have b1 := B1.cell
  go_enter Tryz.func60, Tryz.ntmps60
  go_wp2_with fail
  refine (H _ E0).mono ?_
  rintro e w1 ⟨hE, a', cap', rfl, hin, hfrom⟩
  dsimp only at hin hfrom ⊢
  clear b0 b1 H
  have Z1 := B2.ext hE
  have z := Z1.cell
  have f_ := Z1.fr
  have E1 := E0.trans hE
  have HIn := (show Hid _ from hin.gr (put14_gr w1 (w.heap.size + 1 + 1) (.int .i64 P.c0) (.int .i64 P.c1) (.int .i64 P.c2) (.int .i64 P.last) (.int .i64 Q.c0) (.int .i64 Q.c1) (.int .i64 Q.c2) (.int .i64 Q.last) (.int .i64 R.c0) (.int .i64 R.c1) (.int .i64 R.c2) (.int .i64 R.last) (.slice a' m.length cap') (.int .i64 s)) (fun ad e e2 => by injection e2 with e2; have := hfrom ad e; simp at this; omega))
  have HFrom : Hid (∀ ad, a' = some ad → w.heap.size ≤ ad.block) := fun ad e => by have := hfrom ad e; simp at this; omega
  have E2 := put14_ext E1 (w.heap.size + 1 + 1) (by omega) (.int .i64 P.c0) (.int .i64 P.c1) (.int .i64 P.c2) (.int .i64 P.last) (.int .i64 Q.c0) (.int .i64 Q.c1) (.int .i64 Q.c2) (.int .i64 Q.last) (.int .i64 R.c0) (.int .i64 R.c1) (.int .i64 R.c2) (.int .i64 R.last) (.slice a' m.length cap') (.int .i64 s)
  clear hin hfrom B0 B1 B2
  go_wp2_with fail
  refine bodyPost_ret (v := .tuple #[.agg (wdCells P Q R (.slice a' m.length cap') s), .int .i64 xx]) (by simp [results, Tryz.results60, go_sem, z]) rfl ⟨E2, a', cap', rfl, HIn.out, HFrom.out⟩
set_option maxHeartbeats 8000000 in
theorem deed2_any (p q r : Pg) (a : Option Addr) (len cap : Nat) (safe : Int) (x : Ac) (w : World) (P Q R : Pg) (m : List Rc) (s xx : Int)
    (H : ∀ W, Ext w W → Calls Tryz.prog 18 #[wdVal p q r (.slice a len cap) safe, .int .i64 x.txn] W fun e w' => Ext W w' ∧ DoW W.heap.size w' e ⟨P, Q, R, m, s⟩ xx) :
    Calls Tryz.prog 62 #[wdVal p q r (.slice a len cap) safe, x.v] w fun e w' => Ext w w' ∧ DoW w.heap.size w' e ⟨P, Q, R, m, s⟩ xx := by
  have E0 := (((Ext.refl w).alloc (.cells (wdCells p q r (.slice a len cap) safe) 28)).alloc (.cells x.ar 30)).alloc (.cells (wdCells noPg noPg noPg (.slice none 0 0) 0) 28)
  have B0 := ((Blk.new w w.heap.size (wdCells p q r (.slice a len cap) safe) 28 rfl).alloc (.cells x.ar 30)).alloc (.cells (wdCells noPg noPg noPg (.slice none 0 0) 0) 28)
  have B1 := (Blk.new (w.alloc (.cells (wdCells p q r (.slice a len cap) safe) 28)) (w.heap.size + 1) x.ar 30 (by simp)).alloc (.cells (wdCells noPg noPg noPg (.slice none 0 0) 0) 28)
  have B2 := Blk.new ((w.alloc (.cells (wdCells p q r (.slice a len cap) safe) 28)).alloc (.cells x.ar 30)) (w.heap.size + 1 + 1) (wdCells noPg noPg noPg (.slice none 0 0) 0) 28 (by simp)
  have hsz : w.heap.size ≤ w.heap.size + 1 + 1 := by omega
  have b0 := B0.cell
  have b1 := B1.cell
  go_enter Tryz.func62, Tryz.ntmps62
  go_wp2_with fail
  refine (H _ E0).mono ?_
  rintro e w1 ⟨hE, a', cap', rfl, hin, hfrom⟩
  dsimp only at hin hfrom ⊢
  clear b0 b1 H
  have Z1 := B2.ext hE
  have z := Z1.cell
  have f_ := Z1.fr
  have E1 := E0.trans hE
  have HIn := (show Hid _ from hin.gr (put14_gr w1 (w.heap.size + 1 + 1) (.int .i64 P.c0) (.int .i64 P.c1) (.int .i64 P.c2) (.int .i64 P.last) (.int .i64 Q.c0) (.int .i64 Q.c1) (.int .i64 Q.c2) (.int .i64 Q.last) (.int .i64 R.c0) (.int .i64 R.c1) (.int .i64 R.c2) (.int .i64 R.last) (.slice a' m.length cap') (.int .i64 s)) (fun ad e e2 => by injection e2 with e2; have := hfrom ad e; simp at this; omega))
  have HFrom : Hid (∀ ad, a' = some ad → w.heap.size ≤ ad.block) := fun ad e => by have := hfrom ad e; simp at this; omega
  have E2 := put14_ext E1 (w.heap.size + 1 + 1) (by omega) (.int .i64 P.c0) (.int .i64 P.c1) (.int .i64 P.c2) (.int .i64 P.last) (.int .i64 Q.c0) (.int .i64 Q.c1) (.int .i64 Q.c2) (.int .i64 Q.last) (.int .i64 R.c0) (.int .i64 R.c1) (.int .i64 R.c2) (.int .i64 R.last) (.slice a' m.length cap') (.int .i64 s)
  clear hin hfrom B0 B1 B2
  go_wp2_with fail
  refine bodyPost_ret (v := .tuple #[.agg (wdCells P Q R (.slice a' m.length cap') s), .int .i64 xx]) (by simp [results, Tryz.results62, go_sem, z]) rfl ⟨E2, a', cap', rfl, HIn.out, HFrom.out⟩
set_option maxHeartbeats 8000000 in
theorem deed3_any (p q r : Pg) (a : Option Addr) (len cap : Nat) (safe : Int) (x : Ac) (w : World) (P Q R : Pg) (m : List Rc) (s xx : Int)
    (H : ∀ W, Ext w W → Calls Tryz.prog 64 #[wdVal p q r (.slice a len cap) safe, .int .i64 x.txn] W fun e w' => Ext W w' ∧ DoW W.heap.size w' e ⟨P, Q, R, m, s⟩ xx) :
    Calls Tryz.prog 63 #[wdVal p q r (.slice a len cap) safe, x.v] w fun e w' => Ext w w' ∧ DoW w.heap.size w' e ⟨P, Q, R, m, s⟩ xx := by
  have E0 := (((Ext.refl w).alloc (.cells (wdCells p q r (.slice a len cap) safe) 28)).alloc (.cells x.ar 30)).alloc (.cells (wdCells noPg noPg noPg (.slice none 0 0) 0) 28)
  have B0 := ((Blk.new w w.heap.size (wdCells p q r (.slice a len cap) safe) 28 rfl).alloc (.cells x.ar 30)).alloc (.cells (wdCells noPg noPg noPg (.slice none 0 0) 0) 28)
  have B1 := (Blk.new (w.alloc (.cells (wdCells p q r (.slice a len cap) safe) 28)) (w.heap.size + 1) x.ar 30 (by simp)).alloc (.cells (wdCells noPg noPg noPg (.slice none 0 0) 0) 28)
  have B2 := Blk.new ((w.alloc (.cells (wdCells p q r (.slice a len cap) safe) 28)).alloc (.cells x.ar 30)) (w.heap.size + 1 + 1) (wdCells noPg noPg noPg (.slice none 0 0) 0) 28 (by simp)
  have hsz : w.heap.size ≤ w.heap.size + 1 + 1 := by omega
  have b0 := B0.cell
  have b1 := B1.cell
  go_enter Tryz.func63, Tryz.ntmps63
  go_wp2_with fail
  refine (H _ E0).mono ?_
  rintro e w1 ⟨hE, a', cap', rfl, hin, hfrom⟩
  dsimp only at hin hfrom ⊢
  clear b0 b1 H
  have Z1 := B2.ext hE
  have z := Z1.cell
  have f_ := Z1.fr
  have E1 := E0.trans hE
  have HIn := (show Hid _ from hin.gr (put14_gr w1 (w.heap.size + 1 + 1) (.int .i64 P.c0) (.int .i64 P.c1) (.int .i64 P.c2) (.int .i64 P.last) (.int .i64 Q.c0) (.int .i64 Q.c1) (.int .i64 Q.c2) (.int .i64 Q.last) (.int .i64 R.c0) (.int .i64 R.c1) (.int .i64 R.c2) (.int .i64 R.last) (.slice a' m.length cap') (.int .i64 s)) (fun ad e e2 => by injection e2 with e2; have := hfrom ad e; simp at this; omega))
  have HFrom : Hid (∀ ad, a' = some ad → w.heap.size ≤ ad.block) := fun ad e => by have := hfrom ad e; simp at this; omega
  have E2 := put14_ext E1 (w.heap.size + 1 + 1) (by omega) (.int .i64 P.c0) (.int .i64 P.c1) (.int .i64 P.c2) (.int .i64 P.last) (.int .i64 Q.c0) (.int .i64 Q.c1) (.int .i64 Q.c2) (.int .i64 Q.last) (.int .i64 R.c0) (.int .i64 R.c1) (.int .i64 R.c2) (.int .i64 R.last) (.slice a' m.length cap') (.int .i64 s)
  clear hin hfrom B0 B1 B2
  go_wp2_with fail
  refine bodyPost_ret (v := .tuple #[.agg (wdCells P Q R (.slice a' m.length cap') s), .int .i64 xx]) (by simp [results, Tryz.results63, go_sem, z]) rfl ⟨E2, a', cap', rfl, HIn.out, HFrom.out⟩
set_option maxHeartbeats 8000000 in
theorem deed4_any (p q r : Pg) (a : Option Addr) (len cap : Nat) (safe : Int) (x : Ac) (w : World) (P Q R : Pg) (m : List Rc) (s xx : Int)
    (H : ∀ W, Ext w W → Calls Tryz.prog 66 #[wdVal p q r (.slice a len cap) safe, .int .i64 x.val] W fun e w' => Ext W w' ∧ DoW W.heap.size w' e ⟨P, Q, R, m, s⟩ xx) :
    Calls Tryz.prog 65 #[wdVal p q r (.slice a len cap) safe, x.v] w fun e w' => Ext w w' ∧ DoW w.heap.size w' e ⟨P, Q, R, m, s⟩ xx := by
  have E0 := (((Ext.refl w).alloc (.cells (wdCells p q r (.slice a len cap) safe) 28)).alloc (.cells x.ar 30)).alloc (.cells (wdCells noPg noPg noPg (.slice none 0 0) 0) 28)
  have B0 := ((Blk.new w w.heap.size (wdCells p q r (.slice a len cap) safe) 28 rfl).alloc (.cells x.ar 30)).alloc (.cells (wdCells noPg noPg noPg (.slice none 0 0) 0) 28)
  have B1 := (Blk.new (w.alloc (.cells (wdCells p q r (.slice a len cap) safe) 28)) (w.heap.size + 1) x.ar 30 (by simp)).alloc (.cells (wdCells noPg noPg noPg (.slice none 0 0) 0) 28)
  have B2 := Blk.new ((w.alloc (.cells (wdCells p q r (.slice a len cap) safe) 28)).alloc (.cells x.ar 30)) (w.heap.size + 1 + 1) (wdCells noPg noPg noPg (.slice none 0 0) 0) 28 (by simp)
  have hsz : w.heap.size ≤ w.heap.size + 1 + 1 := by omega
  have b0 := B0.cell
  have b1 := B1.cell
  go_enter Tryz.func65, Tryz.ntmps65
  go_wp2_with fail
  refine (H _ E0).mono ?_
  rintro e w1 ⟨hE, a', cap', rfl, hin, hfrom⟩
  dsimp only at hin hfrom ⊢
  clear b0 b1 H
  have Z1 := B2.ext hE
  have z := Z1.cell
  have f_ := Z1.fr
  have E1 := E0.trans hE
  have HIn := (show Hid _ from hin.gr (put14_gr w1 (w.heap.size + 1 + 1) (.int .i64 P.c0) (.int .i64 P.c1) (.int .i64 P.c2) (.int .i64 P.last) (.int .i64 Q.c0) (.int .i64 Q.c1) (.int .i64 Q.c2) (.int .i64 Q.last) (.int .i64 R.c0) (.int .i64 R.c1) (.int .i64 R.c2) (.int .i64 R.last) (.slice a' m.length cap') (.int .i64 s)) (fun ad e e2 => by injection e2 with e2; have := hfrom ad e; simp at this; omega))
  have HFrom : Hid (∀ ad, a' = some ad → w.heap.size ≤ ad.block) := fun ad e => by have := hfrom ad e; simp at this; omega
  have E2 := put14_ext E1 (w.heap.size + 1 + 1) (by omega) (.int .i64 P.c0) (.int .i64 P.c1) (.int .i64 P.c2) (.int .i64 P.last) (.int .i64 Q.c0) (.int .i64 Q.c1) (.int .i64 Q.c2) (.int .i64 Q.last) (.int .i64 R.c0) (.int .i64 R.c1) (.int .i64 R.c2) (.int .i64 R.last) (.slice a' m.length cap') (.int .i64 s)
  clear hin hfrom B0 B1 B2
  go_wp2_with fail
  refine bodyPost_ret (v := .tuple #[.agg (wdCells P Q R (.slice a' m.length cap') s), .int .i64 xx]) (by simp [results, Tryz.results65, go_sem, z]) rfl ⟨E2, a', cap', rfl, HIn.out, HFrom.out⟩
set_option maxHeartbeats 8000000 in
theorem deed5_any (p q r : Pg) (a : Option Addr) (len cap : Nat) (safe : Int) (x : Ac) (w : World) (P Q R : Pg) (m : List Rc) (s xx : Int)
    (H : ∀ W, Ext w W → Calls Tryz.prog 68 #[wdVal p q r (.slice a len cap) safe, .int .i64 x.page] W fun e w' => Ext W w' ∧ DoW W.heap.size w' e ⟨P, Q, R, m, s⟩ xx) :
    Calls Tryz.prog 67 #[wdVal p q r (.slice a len cap) safe, x.v] w fun e w' => Ext w w' ∧ DoW w.heap.size w' e ⟨P, Q, R, m, s⟩ xx := by
  have E0 := (((Ext.refl w).alloc (.cells (wdCells p q r (.slice a len cap) safe) 28)).alloc (.cells x.ar 30)).alloc (.cells (wdCells noPg noPg noPg (.slice none 0 0) 0) 28)
  have B0 := ((Blk.new w w.heap.size (wdCells p q r (.slice a len cap) safe) 28 rfl).alloc (.cells x.ar 30)).alloc (.cells (wdCells noPg noPg noPg (.slice none 0 0) 0) 28)
  have B1 := (Blk.new (w.alloc (.cells (wdCells p q r (.slice a len cap) safe) 28)) (w.heap.size + 1) x.ar 30 (by simp)).alloc (.cells (wdCells noPg noPg noPg (.slice none 0 0) 0) 28)
  have B2 := Blk.new ((w.alloc (.cells (wdCells p q r (.slice a len cap) safe) 28)).alloc (.cells x.ar 30)) (w.heap.size + 1 + 1) (wdCells noPg noPg noPg (.slice none 0 0) 0) 28 (by simp)
  have hsz : w.heap.size ≤ w.heap.size + 1 + 1 := by omega
  have b0 := B0.cell
  have b1 := B1.cell
  go_enter Tryz.func67, Tryz.ntmps67
  go_wp2_with fail
  refine (H _ E0).mono ?_
  rintro e w1 ⟨hE, a', cap', rfl, hin, hfrom⟩
  dsimp only at hin hfrom ⊢
  clear b0 b1 H
  have Z1 := B2.ext hE
  have z := Z1.cell
  have f_ := Z1.fr
  have E1 := E0.trans hE
  have HIn := (show Hid _ from hin.gr (put14_gr w1 (w.heap.size + 1 + 1) (.int .i64 P.c0) (.int .i64 P.c1) (.int .i64 P.c2) (.int .i64 P.last) (.int .i64 Q.c0) (.int .i64 Q.c1) (.int .i64 Q.c2) (.int .i64 Q.last) (.int .i64 R.c0) (.int .i64 R.c1) (.int .i64 R.c2) (.int .i64 R.last) (.slice a' m.length cap') (.int .i64 s)) (fun ad e e2 => by injection e2 with e2; have := hfrom ad e; simp at this; omega))
  have HFrom : Hid (∀ ad, a' = some ad → w.heap.size ≤ ad.block) := fun ad e => by have := hfrom ad e; simp at this; omega
  have E2 := put14_ext E1 (w.heap.size + 1 + 1) (by omega) (.int .i64 P.c0) (.int .i64 P.c1) (.int .i64 P.c2) (.int .i64 P.last) (.int .i64 Q.c0) (.int .i64 Q.c1) (.int .i64 Q.c2) (.int .i64 Q.last) (.int .i64 R.c0) (.int .i64 R.c1) (.int .i64 R.c2) (.int .i64 R.last) (.slice a' m.length cap') (.int .i64 s)
  clear hin hfrom B0 B1 B2
  go_wp2_with fail
  refine bodyPost_ret (v := .tuple #[.agg (wdCells P Q R (.slice a' m.length cap') s), .int .i64 xx]) (by simp [results, Tryz.results67, go_sem, z]) rfl ⟨E2, a', cap', rfl, HIn.out, HFrom.out⟩
set_option maxHeartbeats 8000000 in
theorem deed6_any (p q r : Pg) (a : Option Addr) (len cap : Nat) (safe : Int) (x : Ac) (w : World) (P Q R : Pg) (m : List Rc) (s xx : Int) (n : Int)
    (H : ∀ W, Ext w W → Calls Tryz.prog 19 #[wdVal p q r (.slice a len cap) safe] W fun e w' => Ext W w' ∧ ∃ a' cap', e = .returned (.tuple #[wdVal P Q R (.slice a' m.length cap') s, .int .i64 n, .int .i64 xx]) ∧ LogIn w' a' m.length cap' m ∧ ∀ ad, a' = some ad → W.heap.size ≤ ad.block) :
    Calls Tryz.prog 69 #[wdVal p q r (.slice a len cap) safe, x.v] w fun e w' => Ext w w' ∧ DoW w.heap.size w' e ⟨P, Q, R, m, s⟩ xx := by
  have E0 := (((Ext.refl w).alloc (.cells (wdCells p q r (.slice a len cap) safe) 28)).alloc (.cells x.ar 30)).alloc (.cells (wdCells noPg noPg noPg (.slice none 0 0) 0) 28)
  have B0 := ((Blk.new w w.heap.size (wdCells p q r (.slice a len cap) safe) 28 rfl).alloc (.cells x.ar 30)).alloc (.cells (wdCells noPg noPg noPg (.slice none 0 0) 0) 28)
  have B1 := (Blk.new (w.alloc (.cells (wdCells p q r (.slice a len cap) safe) 28)) (w.heap.size + 1) x.ar 30 (by simp)).alloc (.cells (wdCells noPg noPg noPg (.slice none 0 0) 0) 28)
  have B2 := Blk.new ((w.alloc (.cells (wdCells p q r (.slice a len cap) safe) 28)).alloc (.cells x.ar 30)) (w.heap.size + 1 + 1) (wdCells noPg noPg noPg (.slice none 0 0) 0) 28 (by simp)
  have hsz : w.heap.size ≤ w.heap.size + 1 + 1 := by omega
  have b0 := B0.cell
  have b1 := B1.cell
  go_enter Tryz.func69, Tryz.ntmps69
  go_wp2_with fail
  refine (H _ E0).mono ?_
  rintro e w1 ⟨hE, a', cap', rfl, hin, hfrom⟩
  clear b0 b1 H
  have Z1 := B2.ext hE
  have X1 := Blk.new w1 w1.heap.size (wdCells P Q R (.slice a' m.length cap') s) 28 rfl
  have z := Z1.cell
  have f_ := Z1.fr
  have hzx := Z1.lt
  have E1 := E0.trans hE
  have G2 := put14_gr w1 (w.heap.size + 1 + 1) (.int .i64 P.c0) (.int .i64 P.c1) (.int .i64 P.c2) (.int .i64 P.last) (.int .i64 Q.c0) (.int .i64 Q.c1) (.int .i64 Q.c2) (.int .i64 Q.last) (.int .i64 R.c0) (.int .i64 R.c1) (.int .i64 R.c2) (.int .i64 R.last) (.slice a' m.length cap') (.int .i64 s)
  have E2 := (put14_ext E1 (w.heap.size + 1 + 1) (by omega) (.int .i64 P.c0) (.int .i64 P.c1) (.int .i64 P.c2) (.int .i64 P.last) (.int .i64 Q.c0) (.int .i64 Q.c1) (.int .i64 Q.c2) (.int .i64 Q.last) (.int .i64 R.c0) (.int .i64 R.c1) (.int .i64 R.c2) (.int .i64 R.last) (.slice a' m.length cap') (.int .i64 s)).alloc (.cells (wdCells P Q R (.slice a' m.length cap') s) 28)
  have HIn := (show Hid _ from (hin.gr G2 (fun ad e e2 => by injection e2 with e2; have := hfrom ad e; simp at this; omega)).ext ((Ext.refl _).alloc (.cells (wdCells P Q R (.slice a' m.length cap') s) 28)))
  have HFrom : Hid (∀ ad, a' = some ad → w.heap.size ≤ ad.block) := fun ad e => by have := hfrom ad e; simp at this; omega
  have x1 := X1.cell
  have ZF := (put14_blk Z1 (.int .i64 P.c0) (.int .i64 P.c1) (.int .i64 P.c2) (.int .i64 P.last) (.int .i64 Q.c0) (.int .i64 Q.c1) (.int .i64 Q.c2) (.int .i64 Q.last) (.int .i64 R.c0) (.int .i64 R.c1) (.int .i64 R.c2) (.int .i64 R.last) (.slice a' m.length cap') (.int .i64 s)).alloc (.cells (wdCells P Q R (.slice a' m.length cap') s) 28)
  clear hin hfrom B0 B1 B2 G2
  go_wp2_with fail
  have zf := ZF.cell
  clear z f_ x1
  refine bodyPost_ret (v := .tuple #[.agg (wdCells P Q R (.slice a' m.length cap') s), .int .i64 xx]) (by simp [results, Tryz.results69, go_sem, zf]) rfl ⟨E2, a', cap', rfl, HIn.out, HFrom.out⟩
theorem run_lookA {w : World} {r : Nat} {al : List (Int × Value)} (h : MapAt keyI w r al) (k : Int) :
    (Instr.lookup 66 (.map (some r)) (.int .i64 k) true).run Tryz.prog w = .ok (match findI (fun q => k == q) al 0 with | some (_, v) => .tuple #[v, .bool true] | none => .tuple #[.nilFunc, .bool false]) w := by
  obtain ⟨es, c, h, he⟩ := h
  have hck : (Instr.checkKey es.isEmpty 10000 3 (.int .i64 k)).run Tryz.prog w = .ok () w := checkKey_int es.isEmpty 9999 k w
  have hfk := findKey_int k w es al he
  have hz : ∀ w, (zeroValue 64).run Tryz.prog w = .ok .nilFunc w := by intro w; simp [go_sem]
  have ho : (getObj r).run Tryz.prog w = .ok (.map es c) w := by simp [getObj, Sem.run, h]
  simp only [Instr.lookup, Sem.run_bind, run_underlying Tryz.underlying66, Result.andThen_ok, ho, Sem.run_pure, hck, hfk]
  cases hf : findI (fun q => k == q) al 0 with
  | none => simp only [Sem.run_bind, hz, Result.andThen_ok, Sem.run_pure, if_true]
  | some p => simp only [Sem.run_bind, Result.andThen_ok, Sem.run_pure, if_true]
theorem run_putA {w : World} {r : Nat} {al : List (Int × Value)} (h : MapAt keyI w r al) (k : Int) (v : Value) (hn : findI (fun q => k == q) al 0 = none) :
    ∃ w', (Instr.mapUpdate 66 (.map (some r)) (keyI k) v).run Tryz.prog w = .ok () w' ∧ MapAt keyI w' r (al ++ [(k, v)]) ∧ Only r w w' := by
  obtain ⟨es, c, h, he⟩ := h
  have hck : (Instr.checkKey false 10000 3 (keyI k)).run Tryz.prog w = .ok () w := checkKey_int false 9999 k w
  have hfk := findKey_int k w es al he
  have ho := run_getMap h
  simp only [Instr.mapUpdate, Sem.run_bind, run_underlying Tryz.underlying66, Result.andThen_ok, ho, hck, hfk, hn]
  exact ⟨_, run_setMap h, ⟨_, _, heap_set h, ents_push he k v c⟩, only_set w r _⟩
abbrev deedV (f : FuncId) : Value := .func (.func f) #[] #[]
def deedsL : List (Int × Value) := [(1, deedV 60), (2, deedV 62), (3, deedV 63), (4, deedV 65), (5, deedV 67), (6, deedV 69)]
theorem map_new (w : World) : (w.alloc (.map #[] 0)).heap[w.heap.size]? = some (.map #[] 0) := by unfold World.alloc; simp
set_option maxHeartbeats 4000000 in
theorem deeds_any (w : World) :
    Calls Tryz.prog 32 #[] w fun e w' => ∃ r, e = .returned (.map (some r)) ∧ Ext w w' ∧ MapAt keyI w' r deedsL := by
  have mm : ∀ (t : TypeId) (w : World), (Instr.makeMap t none).run Tryz.prog w = .ok (.map (some w.heap.size)) (w.alloc (.map #[] 0)) := fun t w => rfl
  have m0 : MapAt keyI (w.alloc (.map #[] 0)) w.heap.size [] := ⟨#[], 0, map_new w, rfl⟩
  have e0 := (Ext.refl w).alloc (.map #[] 0)
  obtain ⟨w1, r1, m1, o1⟩ := run_putA m0 1 (deedV 60) rfl
  have e1 := o1.ext e0 (Nat.le_refl _)
  obtain ⟨w2, r2, m2, o2⟩ := run_putA m1 2 (deedV 62) rfl
  have e2 := o2.ext e1 (Nat.le_refl _)
  obtain ⟨w3, r3, m3, o3⟩ := run_putA m2 3 (deedV 63) rfl
  have e3 := o3.ext e2 (Nat.le_refl _)
  obtain ⟨w4, r4, m4, o4⟩ := run_putA m3 4 (deedV 65) rfl
  have e4 := o4.ext e3 (Nat.le_refl _)
  obtain ⟨w5, r5, m5, o5⟩ := run_putA m4 5 (deedV 67) rfl
  have e5 := o5.ext e4 (Nat.le_refl _)
  obtain ⟨w6, r6, m6, o6⟩ := run_putA m5 6 (deedV 69) rfl
  have e6 := o6.ext e5 (Nat.le_refl _)
  have HM := (show Hid (MapAt keyI w6 w.heap.size deedsL) from m6)
  clear m0 m1 m2 m3 m4 m5 m6 o1 o2 o3 o4 o5 o6 e0 e1 e2 e3 e4 e5
  go_enter Tryz.func32, Tryz.ntmps32
  go_wp2_with fail
  go_ret
  exact ⟨_, rfl, e6, HM.out⟩
set_option maxHeartbeats 8000000 in
theorem actDo_some (i : Nat) (f : FuncId) (p q r : Pg) (a : Option Addr) (len cap : Nat) (safe : Int) (x : Ac) (w : World) (P Q R : Pg) (m : List Rc) (s xx : Int) (hk : findI (fun q => x.kind == q) deedsL 0 = some (i, deedV f))
    (hen : ∀ args w, (callFunc f args).run Tryz.prog w = .ok (.enter f args) w)
    (H : ∀ W, Ext w W → Calls Tryz.prog f #[wdVal p q r (.slice a len cap) safe, x.v] W fun e w' => Ext W w' ∧ DoW W.heap.size w' e ⟨P, Q, R, m, s⟩ xx) :
    Calls Tryz.prog 9 #[wdVal p q r (.slice a len cap) safe, x.v] w fun e w' => Ext w w' ∧ DoW w.heap.size w' e ⟨P, Q, R, m, s⟩ xx := by
  have E0 := (((Ext.refl w).alloc (.cells (wdCells p q r (.slice a len cap) safe) 28)).alloc (.cells x.ar 30)).alloc (.cells (wdCells noPg noPg noPg (.slice none 0 0) 0) 28)
  have B0 := ((Blk.new w w.heap.size (wdCells p q r (.slice a len cap) safe) 28 rfl).alloc (.cells x.ar 30)).alloc (.cells (wdCells noPg noPg noPg (.slice none 0 0) 0) 28)
  have B1 := (Blk.new (w.alloc (.cells (wdCells p q r (.slice a len cap) safe) 28)) (w.heap.size + 1) x.ar 30 (by simp)).alloc (.cells (wdCells noPg noPg noPg (.slice none 0 0) 0) 28)
  have B2 := Blk.new ((w.alloc (.cells (wdCells p q r (.slice a len cap) safe) 28)).alloc (.cells x.ar 30)) (w.heap.size + 1 + 1) (wdCells noPg noPg noPg (.slice none 0 0) 0) 28 (by simp)
  have hsz : w.heap.size ≤ w.heap.size + 1 + 1 := by omega
  have HA : Hid (∀ W, Blk W (w.heap.size + 1) x.ar 30 → ∀ o, W.cell? ⟨w.heap.size + 1, o, none⟩ = x.ar[o]?) := fun W h => h.cell
  go_enter Tryz.func9, Tryz.ntmps9
  go_wp2_with fail
  generalize hW : ((w.alloc (.cells (wdCells p q r (.slice a len cap) safe) 28)).alloc (.cells x.ar 30)).alloc (.cells (wdCells noPg noPg noPg (.slice none 0 0) 0) 28) = W at *
  refine wp_region_held_drew (S := fun W => ∀ o, W.cell? ⟨w.heap.size + 1, o, none⟩ = x.ar[o]?) (by kernel_rfl) (HA.out _ B1.drew) (fun hHeld => ?_)
  refine wpAnyH_take (i := 1) (v := ?v1) rfl (by kernel_rfl) (by kernel_rfl) (by kernel_rfl) (fun _ _ _ h => h) (Or.inl ⟨by rfl, ?hy1⟩) hHeld ?r1
  case hy1 => first | (intro w hSw; (try dsimp only at hSw); go_simp; done) | (intro w hSw; (try dsimp only at hSw); go_simp; with_reducible rfl)
  simp only [Act.put]
  refine wpAnyH_take (i := 2) (v := ?v2) rfl (by kernel_rfl) (by kernel_rfl) (by kernel_rfl) (fun _ _ _ h => h) (Or.inl ⟨by rfl, ?hy2⟩) hHeld ?r2
  case hy2 => first | (intro w hSw; (try dsimp only at hSw); go_simp; done) | (intro w hSw; (try dsimp only at hSw); go_simp; with_reducible rfl)
  simp only [Act.put]
  refine wpAnyH_ready (rs := [0]) (by kernel_rfl) (by simp) ?_
  refine AllReadyH.cons rfl (fun K hK => ?_) AllReadyH.nil
  go_simp
  refine (deeds_any _).mono ?_
  rintro e w1 ⟨rm, rfl, hE, hM⟩
  replace hE := ((Ext.refl W).drew).trans hE
  have C0 := B0.ext hE
  have C1 := B1.ext hE
  have C2 := B2.ext hE
  have E1 := E0.trans hE
  clear B0 B1 B2 hHeld hE
  go_wp2_with fail
  refine hK.out _ _ (HA.out _ C1) (fun hHeld => ?_)
  clear hK K
  have hrun := run_lookA hM x.kind
  rw [hk] at hrun
  dsimp only at hrun
  refine wpAnyH_ready (rs := [3]) (by kernel_rfl) (by simp) ?_
  refine AllReadyH.cons rfl (fun K hK => ?_) AllReadyH.nil
  go_simp
  refine hK.out _ _ hHeld (fun hHeld => ?_)
  clear hK K hrun hM hk
  refine wpAnyH_take (i := 4) (v := ?v3) rfl (by kernel_rfl) (by kernel_rfl) (by kernel_rfl) (fun _ _ _ h => h) (Or.inl ⟨by rfl, ?hy3⟩) hHeld ?r3
  case hy3 => first | (intro w hSw; (try dsimp only at hSw); go_simp; done) | (intro w hSw; (try dsimp only at hSw); go_simp; with_reducible rfl)
  simp only [Act.put]
  refine wpAnyH_take (i := 5) (v := ?v4) rfl (by kernel_rfl) (by kernel_rfl) (by kernel_rfl) (fun _ _ _ h => h) (Or.inl ⟨by rfl, ?hy4⟩) hHeld ?r4
  case hy4 => first | (intro w hSw; (try dsimp only at hSw); go_simp; done) | (intro w hSw; (try dsimp only at hSw); go_simp; with_reducible rfl)
  simp only [Act.put]
  refine wpAnyH_take (i := 6) (v := ?v5) rfl (by kernel_rfl) (by kernel_rfl) (by kernel_rfl) (fun _ _ _ h => h) (Or.inl ⟨by rfl, ?hy5⟩) hHeld ?r5
  case hy5 => first | (intro w hSw; (try dsimp only at hSw); go_simp; done) | (intro w hSw; (try dsimp only at hSw); go_simp; with_reducible rfl)
  simp only [Act.put]
  refine wpAnyH_take (i := 7) (v := ?v6) rfl (by kernel_rfl) (by kernel_rfl) (by kernel_rfl) (fun _ _ _ h => h) (Or.inl ⟨by rfl, ?hy6⟩) hHeld ?r6
  case hy6 => first | (intro w hSw; (try dsimp only at hSw); go_simp; done) | (intro w hSw; (try dsimp only at hSw); go_simp; with_reducible rfl)
  simp only [Act.put]
  refine wpAnyH_take (i := 8) (v := ?v7) rfl (by kernel_rfl) (by kernel_rfl) (by kernel_rfl) (fun _ _ _ h => h) (Or.inl ⟨by rfl, ?hy7⟩) hHeld ?r7
  case hy7 => first | (intro w hSw; (try dsimp only at hSw); go_simp; done) | (intro w hSw; (try dsimp only at hSw); go_simp; with_reducible rfl)
  simp only [Act.put]
  refine wpAnyH_done (by kernel_rfl) ?_ _
  clear hHeld HA hW
  have b0 := C0.cell
  have b1 := C1.cell
  go_wp2_with fail
  refine (H _ E1).mono ?_
  rintro e w2 ⟨hE, a', cap', rfl, hin, hfrom⟩
  dsimp only at hin hfrom ⊢
  have hsz1 := C2.lt
  clear b0 b1 H
  have Z1 := C2.ext hE
  have z := Z1.cell
  have f_ := Z1.fr
  have E2 := E1.trans hE
  have HIn := (show Hid _ from hin.gr (put14_gr w2 (w.heap.size + 1 + 1) (.int .i64 P.c0) (.int .i64 P.c1) (.int .i64 P.c2) (.int .i64 P.last) (.int .i64 Q.c0) (.int .i64 Q.c1) (.int .i64 Q.c2) (.int .i64 Q.last) (.int .i64 R.c0) (.int .i64 R.c1) (.int .i64 R.c2) (.int .i64 R.last) (.slice a' m.length cap') (.int .i64 s)) (fun ad e e2 => by injection e2 with e2; have := hfrom ad e; omega))
  have HFrom : Hid (∀ ad, a' = some ad → w.heap.size ≤ ad.block) := fun ad e => by have := hfrom ad e; omega
  have E3 := put14_ext E2 (w.heap.size + 1 + 1) (by omega) (.int .i64 P.c0) (.int .i64 P.c1) (.int .i64 P.c2) (.int .i64 P.last) (.int .i64 Q.c0) (.int .i64 Q.c1) (.int .i64 Q.c2) (.int .i64 Q.last) (.int .i64 R.c0) (.int .i64 R.c1) (.int .i64 R.c2) (.int .i64 R.last) (.slice a' m.length cap') (.int .i64 s)
  clear hin hfrom C0 C1 C2
  go_wp2_with fail
  refine bodyPost_ret (v := .tuple #[.agg (wdCells P Q R (.slice a' m.length cap') s), .int .i64 xx]) (by simp [results, Tryz.results9, go_sem, z]) rfl ⟨E3, a', cap', rfl, HIn.out, HFrom.out⟩
set_option maxHeartbeats 8000000 in
theorem actDo_none (p q r : Pg) (a : Option Addr) (len cap : Nat) (safe : Int) (x : Ac) (w : World) (hk : findI (fun q => x.kind == q) deedsL 0 = none) :
    Calls Tryz.prog 9 #[wdVal p q r (.slice a len cap) safe, x.v] w fun e w' => Ext w w' ∧ DoW w.heap.size w' e noWd 4 := by
  have E0 := (((Ext.refl w).alloc (.cells (wdCells p q r (.slice a len cap) safe) 28)).alloc (.cells x.ar 30)).alloc (.cells (wdCells noPg noPg noPg (.slice none 0 0) 0) 28)
  have B0 := ((Blk.new w w.heap.size (wdCells p q r (.slice a len cap) safe) 28 rfl).alloc (.cells x.ar 30)).alloc (.cells (wdCells noPg noPg noPg (.slice none 0 0) 0) 28)
  have B1 := (Blk.new (w.alloc (.cells (wdCells p q r (.slice a len cap) safe) 28)) (w.heap.size + 1) x.ar 30 (by simp)).alloc (.cells (wdCells noPg noPg noPg (.slice none 0 0) 0) 28)
  have B2 := Blk.new ((w.alloc (.cells (wdCells p q r (.slice a len cap) safe) 28)).alloc (.cells x.ar 30)) (w.heap.size + 1 + 1) (wdCells noPg noPg noPg (.slice none 0 0) 0) 28 (by simp)
  have hsz : w.heap.size ≤ w.heap.size + 1 + 1 := by omega
  have HA : Hid (∀ W, Blk W (w.heap.size + 1) x.ar 30 → ∀ o, W.cell? ⟨w.heap.size + 1, o, none⟩ = x.ar[o]?) := fun W h => h.cell
  go_enter Tryz.func9, Tryz.ntmps9
  go_wp2_with fail
  generalize hW : ((w.alloc (.cells (wdCells p q r (.slice a len cap) safe) 28)).alloc (.cells x.ar 30)).alloc (.cells (wdCells noPg noPg noPg (.slice none 0 0) 0) 28) = W at *
  refine wp_region_held_drew (S := fun W => ∀ o, W.cell? ⟨w.heap.size + 1, o, none⟩ = x.ar[o]?) (by kernel_rfl) (HA.out _ B1.drew) (fun hHeld => ?_)
  refine wpAnyH_take (i := 1) (v := ?v8) rfl (by kernel_rfl) (by kernel_rfl) (by kernel_rfl) (fun _ _ _ h => h) (Or.inl ⟨by rfl, ?hy8⟩) hHeld ?r8
  case hy8 => first | (intro w hSw; (try dsimp only at hSw); go_simp; done) | (intro w hSw; (try dsimp only at hSw); go_simp; with_reducible rfl)
  simp only [Act.put]
  refine wpAnyH_take (i := 2) (v := ?v9) rfl (by kernel_rfl) (by kernel_rfl) (by kernel_rfl) (fun _ _ _ h => h) (Or.inl ⟨by rfl, ?hy9⟩) hHeld ?r9
  case hy9 => first | (intro w hSw; (try dsimp only at hSw); go_simp; done) | (intro w hSw; (try dsimp only at hSw); go_simp; with_reducible rfl)
  simp only [Act.put]
  refine wpAnyH_ready (rs := [0]) (by kernel_rfl) (by simp) ?_
  refine AllReadyH.cons rfl (fun K hK => ?_) AllReadyH.nil
  go_simp
  refine (deeds_any _).mono ?_
  rintro e w1 ⟨rm, rfl, hE, hM⟩
  replace hE := ((Ext.refl W).drew).trans hE
  have C0 := B0.ext hE
  have C1 := B1.ext hE
  have C2 := B2.ext hE
  have E1 := E0.trans hE
  clear B0 B1 B2 hHeld hE
  go_wp2_with fail
  refine hK.out _ _ (HA.out _ C1) (fun hHeld => ?_)
  clear hK K
  have hrun := run_lookA hM x.kind
  rw [hk] at hrun
  dsimp only at hrun
  refine wpAnyH_ready (rs := [3]) (by kernel_rfl) (by simp) ?_
  refine AllReadyH.cons rfl (fun K hK => ?_) AllReadyH.nil
  go_simp
  refine hK.out _ _ hHeld (fun hHeld => ?_)
  clear hK K hrun hM hk
  refine wpAnyH_take (i := 4) (v := ?v10) rfl (by kernel_rfl) (by kernel_rfl) (by kernel_rfl) (fun _ _ _ h => h) (Or.inl ⟨by rfl, ?hy10⟩) hHeld ?r10
  case hy10 => first | (intro w hSw; (try dsimp only at hSw); go_simp; done) | (intro w hSw; (try dsimp only at hSw); go_simp; with_reducible rfl)
  simp only [Act.put]
  refine wpAnyH_take (i := 5) (v := ?v11) rfl (by kernel_rfl) (by kernel_rfl) (by kernel_rfl) (fun _ _ _ h => h) (Or.inl ⟨by rfl, ?hy11⟩) hHeld ?r11
  case hy11 => first | (intro w hSw; (try dsimp only at hSw); go_simp; done) | (intro w hSw; (try dsimp only at hSw); go_simp; with_reducible rfl)
  simp only [Act.put]
  refine wpAnyH_take (i := 6) (v := ?v12) rfl (by kernel_rfl) (by kernel_rfl) (by kernel_rfl) (fun _ _ _ h => h) (Or.inl ⟨by rfl, ?hy12⟩) hHeld ?r12
  case hy12 => first | (intro w hSw; (try dsimp only at hSw); go_simp; done) | (intro w hSw; (try dsimp only at hSw); go_simp; with_reducible rfl)
  simp only [Act.put]
  refine wpAnyH_take (i := 7) (v := ?v13) rfl (by kernel_rfl) (by kernel_rfl) (by kernel_rfl) (fun _ _ _ h => h) (Or.inl ⟨by rfl, ?hy13⟩) hHeld ?r13
  case hy13 => first | (intro w hSw; (try dsimp only at hSw); go_simp; done) | (intro w hSw; (try dsimp only at hSw); go_simp; with_reducible rfl)
  simp only [Act.put]
  refine wpAnyH_take (i := 8) (v := ?v14) rfl (by kernel_rfl) (by kernel_rfl) (by kernel_rfl) (fun _ _ _ h => h) (Or.inl ⟨by rfl, ?hy14⟩) hHeld ?r14
  case hy14 => first | (intro w hSw; (try dsimp only at hSw); go_simp; done) | (intro w hSw; (try dsimp only at hSw); go_simp; with_reducible rfl)
  simp only [Act.put]
  refine wpAnyH_done (by kernel_rfl) ?_ _
  clear hHeld HA hW
  have z := C2.cell
  have f_ := C2.fr
  have E3 := put14_ext E1 (w.heap.size + 1 + 1) (by omega) (.int .i64 0) (.int .i64 0) (.int .i64 0) (.int .i64 0) (.int .i64 0) (.int .i64 0) (.int .i64 0) (.int .i64 0) (.int .i64 0) (.int .i64 0) (.int .i64 0) (.int .i64 0) (.slice none 0 0) (.int .i64 0)
  clear C0 C1 C2
  go_wp2_with fail
  refine bodyPost_ret (v := .tuple #[.agg (wdCells noPg noPg noPg (.slice none 0 0) 0), .int .i64 4]) (by simp [results, Tryz.results9, go_sem, z]) rfl ⟨E3, none, 0, rfl, logIn_none _, fun _ e => by cases e⟩
end Go.Proofs.YtbfefocehnafgaaGreat.B
