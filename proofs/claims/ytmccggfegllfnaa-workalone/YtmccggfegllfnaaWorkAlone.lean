/- WorkAlone holds: what one Txn does turns no other one's state, nor what its last record is. -/
import Derived.Test.YtmccggfegllfnaaAns
import Derived.Test.YtmccggfegllfnaaRoll1
import Derived.Test.YtmccggfegllfnaaWork9
import Derived.Test.YtmccggfegllfnaaChoose
namespace Go.Proofs.Ytmccggfegllfnaa.B
set_option maxRecDepth 100000
open Go.ChangeShapes Go.WideShapes Go.ChangeAt Go.RowKit

set_option maxHeartbeats 16000000 in
theorem workAlone_go (w : World) (p q r : Pg) (a : Option Addr) (len cap : Nat) (l : List Rc) (safe : Int) (h : LogIn w a len cap l) (t : Int) (_ : IntKind.i64.has t) (x : Int) (_ : IntKind.i64.has x) (c : Int) (_ : IntKind.i64.has c) (v : Int) (_ : IntKind.i64.has v) (o : Int) (ho : IntKind.i64.has o) :
    Calls Try.prog 3 #[wdVal p q r (.slice a len cap) safe, .int .i64 t, .int .i64 x, .int .i64 c, .int .i64 v, .int .i64 o] w fun e w' => e = .returned (.bool true) ∧ Ext w w' := by
  have hc9 := chooseN_lt o (n := 9) (by decide)
  have HC := fun w' => choose_any o 9 w' ho (by decide) (by decide)
  obtain ⟨k, hk⟩ : ∃ k, chooseN o 9 = k := ⟨_, rfl⟩
  rw [hk] at HC hc9
  clear hk
  have HSt := fun w' (e : Ext w w') => logState_any a len cap l (1 + (k : Int)) w' (h.recs.ext e) h.max
  have H1 := fun w' (e : Ext w w') => (workWrite_any p q r a len cap l safe t x c v w' (h.ext e)).mono fun _ _ ⟨h1, h2⟩ => And.intro h1 h2.all
  have H2 := fun w' (e : Ext w w') => (rollAbort_any p q r a len cap l safe t w' (h.ext e)).mono fun _ _ ⟨h1, h2⟩ => And.intro h1 h2.all
  have H3 := fun w' (e : Ext w w') => (workCommit_any p q r a len cap l safe t w' (h.ext e)).mono fun _ _ ⟨h1, h2⟩ => And.intro h1 h2.all
  have S1 : Hid (t ≠ 1 + (k : Int) → errOf (worldErr p q r l safe) (writeErr l t x c v) = 0 → stateAns (ansL (errOf (worldErr p q r l safe) (writeErr l t x c v)) (l ++ [writeRec l t x c v])) (1 + (k : Int)) = stateAns l (1 + (k : Int))) := fun hu h0 => by rw [ansL_ok h0]; exact (write_alone hu h0).1
  have S2 : Hid (t ≠ 1 + (k : Int) → errOf (worldErr p q r l safe) (abortErr l t) = 0 → stateAns (ansL (errOf (worldErr p q r l safe) (abortErr l t)) (abortR l t)) (1 + (k : Int)) = stateAns l (1 + (k : Int))) := fun hu h0 => by rw [ansL_ok h0]; exact (abort_alone hu h0).1
  have S3 : Hid (t ≠ 1 + (k : Int) → errOf (worldErr p q r l safe) (commitErr l t) = 0 → stateAns (ansL (errOf (worldErr p q r l safe) (commitErr l t)) ((l ++ [commitRec l t]) ++ [endRec l t])) (1 + (k : Int)) = stateAns l (1 + (k : Int))) := fun hu h0 => by rw [ansL_ok h0]; exact (commit_alone hu h0).1
  have L1 : (ansL (errOf (worldErr p q r l safe) (writeErr l t x c v)) (l ++ [writeRec l t x c v])).length ≤ 1000 := ansL_len fun h0 => (write_alone (u := t + 1) (by omega) h0).2
  have L2 : (ansL (errOf (worldErr p q r l safe) (abortErr l t)) (abortR l t)).length ≤ 1000 := ansL_len fun h0 => (abort_alone (u := t + 1) (by omega) h0).2
  have L3 : (ansL (errOf (worldErr p q r l safe) (commitErr l t)) ((l ++ [commitRec l t]) ++ [endRec l t])).length ≤ 1000 := ansL_len fun h0 => (commit_alone (u := t + 1) (by omega) h0).2
  generalize ansL (errOf (worldErr p q r l safe) (writeErr l t x c v)) (l ++ [writeRec l t x c v]) = m1 at *
  generalize ansL (errOf (worldErr p q r l safe) (abortErr l t)) (abortR l t) = m2 at *
  generalize ansL (errOf (worldErr p q r l safe) (commitErr l t)) ((l ++ [commitRec l t]) ++ [endRec l t]) = m3 at *
  generalize errOf (worldErr p q r l safe) (writeErr l t x c v) = x1 at *
  generalize errOf (worldErr p q r l safe) (abortErr l t) = x2 at *
  generalize errOf (worldErr p q r l safe) (commitErr l t) = x3 at *
  generalize ansS x1 safe = s1 at *
  generalize ansP x1 p = p1 at *
  generalize ansP x1 q = q1 at *
  generalize ansP x1 r = r1 at *
  generalize ansS x2 safe = s2 at *
  generalize ansP x2 p = p2 at *
  generalize ansP x2 q = q2 at *
  generalize ansP x2 r = r2 at *
  generalize ansS x3 ((l.length + 1 : Nat) : Int) = s3 at *
  generalize ansP x3 p = p3 at *
  generalize ansP x3 q = q3 at *
  generalize ansP x3 r = r3 at *
  have T1 : Hid (∀ w' a' cap', Recs w' a' m1.length m1 → Calls Try.prog 10 #[.slice a' m1.length cap', .int .i64 (1 + (k : Int))] w' fun e w'' => e = .returned (.tuple #[.int .i64 (stateAns m1 (1 + (k : Int))).1, .int .i64 (stateAns m1 (1 + (k : Int))).2.1, .int .i64 (stateAns m1 (1 + (k : Int))).2.2]) ∧ Ext w' w'') := fun w' a' cap' hr => logState_any a' m1.length cap' m1 _ w' hr (by unfold maxLen; omega)
  have T2 : Hid (∀ w' a' cap', Recs w' a' m2.length m2 → Calls Try.prog 10 #[.slice a' m2.length cap', .int .i64 (1 + (k : Int))] w' fun e w'' => e = .returned (.tuple #[.int .i64 (stateAns m2 (1 + (k : Int))).1, .int .i64 (stateAns m2 (1 + (k : Int))).2.1, .int .i64 (stateAns m2 (1 + (k : Int))).2.2]) ∧ Ext w' w'') := fun w' a' cap' hr => logState_any a' m2.length cap' m2 _ w' hr (by unfold maxLen; omega)
  have T3 : Hid (∀ w' a' cap', Recs w' a' m3.length m3 → Calls Try.prog 10 #[.slice a' m3.length cap', .int .i64 (1 + (k : Int))] w' fun e w'' => e = .returned (.tuple #[.int .i64 (stateAns m3 (1 + (k : Int))).1, .int .i64 (stateAns m3 (1 + (k : Int))).2.1, .int .i64 (stateAns m3 (1 + (k : Int))).2.2]) ∧ Ext w' w'') := fun w' a' cap' hr => logState_any a' m3.length cap' m3 _ w' hr (by unfold maxLen; omega)
  generalize stateAns m1 (1 + (k : Int)) = sm1 at *
  generalize stateAns m2 (1 + (k : Int)) = sm2 at *
  generalize stateAns m3 (1 + (k : Int)) = sm3 at *
  generalize stateAns l (1 + (k : Int)) = sl at *
  obtain ⟨y1, y2, y3⟩ := sl
  dsimp only at HSt
  have E0 := (Ext.refl w).alloc (.cells (wdCells p q r (.slice a len cap) safe) 28)
  have B0 := Blk.new w w.heap.size (wdCells p q r (.slice a len cap) safe) 28 rfl
  have b0 := B0.cell
  have HB1 := fun w' (_ : Ext w w') => workBegun_any w'
  go_enter Try.func3, Try.ntmps3
  go_wp2_with fail
  refine (HC _).mono ?_
  rintro e w1 ⟨rfl, rfl⟩
  clear HC
  go_wp2_with fail
  refine (HSt _ E0).mono ?_
  rintro e w0 ⟨rfl, hw⟩
  have F0 := E0.trans hw
  have C0 := B0.ext hw
  clear hw E0 B0 b0 HSt
  have b1 := C0.cell
  go_wp2_with fail
  refine (H1 _ F0).mono ?_
  rintro e u1 ⟨hw, a1, cap1, rfl, R1⟩
  have o1 := hw.alloc (.cells (wdCells p1 q1 r1 (.slice a1 m1.length cap1) s1) 28)
  have X1 := Blk.new u1 u1.heap.size (wdCells p1 q1 r1 (.slice a1 m1.length cap1) s1) 28 rfl
  replace R1 := R1.ext ((Ext.refl u1).alloc (.cells (wdCells p1 q1 r1 (.slice a1 m1.length cap1) s1) 28))
  replace F0 := F0.trans o1
  replace C0 := C0.ext o1
  clear hw o1 b1 H1
  have b2 := C0.cell
  go_wp2_with fail
  refine (H2 _ F0).mono ?_
  rintro e u2 ⟨hw, a2, cap2, rfl, R2⟩
  have o2 := hw.alloc (.cells (wdCells p2 q2 r2 (.slice a2 m2.length cap2) s2) 28)
  have X2 := Blk.new u2 u2.heap.size (wdCells p2 q2 r2 (.slice a2 m2.length cap2) s2) 28 rfl
  replace R2 := R2.ext ((Ext.refl u2).alloc (.cells (wdCells p2 q2 r2 (.slice a2 m2.length cap2) s2) 28))
  replace F0 := F0.trans o2
  replace C0 := C0.ext o2
  replace X1 := X1.ext o2
  replace R1 := R1.ext o2
  clear hw o2 b2 H2
  have b3 := C0.cell
  go_wp2_with fail
  refine (H3 _ F0).mono ?_
  rintro e u3 ⟨hw, a3, cap3, rfl, R3⟩
  have o3 := hw.alloc (.cells (wdCells p3 q3 r3 (.slice a3 m3.length cap3) s3) 28)
  have X3 := Blk.new u3 u3.heap.size (wdCells p3 q3 r3 (.slice a3 m3.length cap3) s3) 28 rfl
  replace R3 := R3.ext ((Ext.refl u3).alloc (.cells (wdCells p3 q3 r3 (.slice a3 m3.length cap3) s3) 28))
  replace F0 := F0.trans o3
  replace C0 := C0.ext o3
  replace X1 := X1.ext o3
  replace R1 := R1.ext o3
  replace X2 := X2.ext o3
  replace R2 := R2.ext o3
  clear hw o3 b3 H3
  by_cases he : y3 = 0
  rotate_left
  · have hb : (y3 != 0) = true := by simpa using he
    clear he
    go_wp2_with fail
    refine (HB1 _ F0).mono ?_
    rintro e z ⟨rfl, hw⟩
    go_wp2_with fail
    go_ret
    exact ⟨rfl, F0.trans hw⟩
  by_cases hu : t = 1 + (k : Int)
  · have hb : (y3 != 0) = false := by simpa using he
    have hb2 : ((1 + (k : Int)) == t) = true := by simp [hu]
    clear he hu S1 S2 S3
    go_wp2_with fail
    refine (HB1 _ F0).mono ?_
    rintro e z ⟨rfl, hw⟩
    go_wp2_with fail
    go_ret
    exact ⟨rfl, F0.trans hw⟩
  have hb : (y3 != 0) = false := by simpa using he
  have hb2 : ((1 + (k : Int)) == t) = false := by simp; omega
  have HE := (show Hid (y3 = 0) from he)
  have HU := (show Hid (t ≠ 1 + (k : Int)) from hu)
  clear he hu
  have x1c := X1.cell
  have x2c := X2.cell
  have x3c := X3.cell
  go_wp2_with fail
  clear x1c x2c x3c
  have A := (Blk.new (u3.alloc (.cells (wdCells p3 q3 r3 (.slice a3 m3.length cap3) s3) 28)) (u3.heap.size + 1) #[.int .i64 p1.c0, .int .i64 p1.c1, .int .i64 p1.c2, .int .i64 p1.last, .int .i64 q1.c0, .int .i64 q1.c1, .int .i64 q1.c2, .int .i64 q1.last, .int .i64 r1.c0, .int .i64 r1.c1, .int .i64 r1.c2, .int .i64 r1.last, .slice a1 m1.length cap1, .int .i64 s1, .int .i64 p2.c0, .int .i64 p2.c1, .int .i64 p2.c2, .int .i64 p2.last, .int .i64 q2.c0, .int .i64 q2.c1, .int .i64 q2.c2, .int .i64 q2.last, .int .i64 r2.c0, .int .i64 r2.c1, .int .i64 r2.c2, .int .i64 r2.last, .slice a2 m2.length cap2, .int .i64 s2, .int .i64 p3.c0, .int .i64 p3.c1, .int .i64 p3.c2, .int .i64 p3.last, .int .i64 q3.c0, .int .i64 q3.c1, .int .i64 q3.c2, .int .i64 q3.last, .int .i64 r3.c0, .int .i64 r3.c1, .int .i64 r3.c2, .int .i64 r3.last, .slice a3 m3.length cap3, .int .i64 s3] 28 (by simp)).alloc (.cells #[.int .i64 x1, .int .i64 x2, .int .i64 x3] 30)
  have B := Blk.new ((u3.alloc (.cells (wdCells p3 q3 r3 (.slice a3 m3.length cap3) s3) 28)).alloc (.cells #[.int .i64 p1.c0, .int .i64 p1.c1, .int .i64 p1.c2, .int .i64 p1.last, .int .i64 q1.c0, .int .i64 q1.c1, .int .i64 q1.c2, .int .i64 q1.last, .int .i64 r1.c0, .int .i64 r1.c1, .int .i64 r1.c2, .int .i64 r1.last, .slice a1 m1.length cap1, .int .i64 s1, .int .i64 p2.c0, .int .i64 p2.c1, .int .i64 p2.c2, .int .i64 p2.last, .int .i64 q2.c0, .int .i64 q2.c1, .int .i64 q2.c2, .int .i64 q2.last, .int .i64 r2.c0, .int .i64 r2.c1, .int .i64 r2.c2, .int .i64 r2.last, .slice a2 m2.length cap2, .int .i64 s2, .int .i64 p3.c0, .int .i64 p3.c1, .int .i64 p3.c2, .int .i64 p3.last, .int .i64 q3.c0, .int .i64 q3.c1, .int .i64 q3.c2, .int .i64 q3.last, .int .i64 r3.c0, .int .i64 r3.c1, .int .i64 r3.c2, .int .i64 r3.last, .slice a3 m3.length cap3, .int .i64 s3] 28)) (u3.heap.size + 1 + 1) #[.int .i64 x1, .int .i64 x2, .int .i64 x3] 30 (by simp)
  have o4 := ((Ext.refl (u3.alloc (.cells (wdCells p3 q3 r3 (.slice a3 m3.length cap3) s3) 28))).alloc (.cells #[.int .i64 p1.c0, .int .i64 p1.c1, .int .i64 p1.c2, .int .i64 p1.last, .int .i64 q1.c0, .int .i64 q1.c1, .int .i64 q1.c2, .int .i64 q1.last, .int .i64 r1.c0, .int .i64 r1.c1, .int .i64 r1.c2, .int .i64 r1.last, .slice a1 m1.length cap1, .int .i64 s1, .int .i64 p2.c0, .int .i64 p2.c1, .int .i64 p2.c2, .int .i64 p2.last, .int .i64 q2.c0, .int .i64 q2.c1, .int .i64 q2.c2, .int .i64 q2.last, .int .i64 r2.c0, .int .i64 r2.c1, .int .i64 r2.c2, .int .i64 r2.last, .slice a2 m2.length cap2, .int .i64 s2, .int .i64 p3.c0, .int .i64 p3.c1, .int .i64 p3.c2, .int .i64 p3.last, .int .i64 q3.c0, .int .i64 q3.c1, .int .i64 q3.c2, .int .i64 q3.last, .int .i64 r3.c0, .int .i64 r3.c1, .int .i64 r3.c2, .int .i64 r3.last, .slice a3 m3.length cap3, .int .i64 s3] 28)).alloc (.cells #[.int .i64 x1, .int .i64 x2, .int .i64 x3] 30)
  replace F0 := F0.trans o4
  replace R1 := R1.ext o4
  replace R2 := R2.ext o4
  replace R3 := R3.ext o4
  clear o4 C0 X1 X2 X3
  generalize ((u3.alloc (.cells (wdCells p3 q3 r3 (.slice a3 m3.length cap3) s3) 28)).alloc (.cells #[.int .i64 p1.c0, .int .i64 p1.c1, .int .i64 p1.c2, .int .i64 p1.last, .int .i64 q1.c0, .int .i64 q1.c1, .int .i64 q1.c2, .int .i64 q1.last, .int .i64 r1.c0, .int .i64 r1.c1, .int .i64 r1.c2, .int .i64 r1.last, .slice a1 m1.length cap1, .int .i64 s1, .int .i64 p2.c0, .int .i64 p2.c1, .int .i64 p2.c2, .int .i64 p2.last, .int .i64 q2.c0, .int .i64 q2.c1, .int .i64 q2.c2, .int .i64 q2.last, .int .i64 r2.c0, .int .i64 r2.c1, .int .i64 r2.c2, .int .i64 r2.last, .slice a2 m2.length cap2, .int .i64 s2, .int .i64 p3.c0, .int .i64 p3.c1, .int .i64 p3.c2, .int .i64 p3.last, .int .i64 q3.c0, .int .i64 q3.c1, .int .i64 q3.c2, .int .i64 q3.last, .int .i64 r3.c0, .int .i64 r3.c1, .int .i64 r3.c2, .int .i64 r3.last, .slice a3 m3.length cap3, .int .i64 s3] 28)).alloc (.cells #[.int .i64 x1, .int .i64 x2, .int .i64 x3] 30) = W at *
  go_loopw [25] (fun i wr => ∃ n : Nat, n ≤ 3 ∧ i = .int .i64 n ∧ Ext W wr) (fun i _ => 3 - (intOf i).toNat)
  case atStart => exact ⟨0, by omega, rfl, Ext.refl W⟩
  case round =>
    obtain ⟨n, hn, rfl, hE⟩ := hrel
    have ac := (A.ext hE).cell
    have bc := (B.ext hE).cell
    have hn4 : n = 0 ∨ n = 1 ∨ n = 2 ∨ n = 3 := by omega
    rcases hn4 with rfl | rfl | rfl | rfl
    · by_cases hx : x1 = 0
      · have hbx : (x1 != 0) = false := by simpa using hx
        have hs := S1.out HU.out hx
        have hc := T1.out wr a1 cap1 (R1.ext hE)
        rw [hs] at hc
        dsimp only at hc
        clear hs hx
        go_wp2_with fail
        refine hc.mono ?_
        rintro e z ⟨rfl, hw⟩
        clear ac bc hc
        have hE2 := hE.trans hw
        go_wp2_with fail
        go_roundw
        case rel => exact ⟨1, by omega, by simp, hE2⟩
        case measure => simp [intOf]
      · have hbx : (x1 != 0) = true := by simpa using hx
        clear hx
        go_wp2_with fail
        go_roundw
        case rel => exact ⟨1, by omega, by simp, hE⟩
        case measure => simp [intOf]
    · by_cases hx : x2 = 0
      · have hbx : (x2 != 0) = false := by simpa using hx
        have hs := S2.out HU.out hx
        have hc := T2.out wr a2 cap2 (R2.ext hE)
        rw [hs] at hc
        dsimp only at hc
        clear hs hx
        go_wp2_with fail
        refine hc.mono ?_
        rintro e z ⟨rfl, hw⟩
        clear ac bc hc
        have hE2 := hE.trans hw
        go_wp2_with fail
        go_roundw
        case rel => exact ⟨2, by omega, by simp, hE2⟩
        case measure => simp [intOf]
      · have hbx : (x2 != 0) = true := by simpa using hx
        clear hx
        go_wp2_with fail
        go_roundw
        case rel => exact ⟨2, by omega, by simp, hE⟩
        case measure => simp [intOf]
    · by_cases hx : x3 = 0
      · have hbx : (x3 != 0) = false := by simpa using hx
        have hs := S3.out HU.out hx
        have hc := T3.out wr a3 cap3 (R3.ext hE)
        rw [hs] at hc
        dsimp only at hc
        clear hs hx
        go_wp2_with fail
        refine hc.mono ?_
        rintro e z ⟨rfl, hw⟩
        clear ac bc hc
        have hE2 := hE.trans hw
        go_wp2_with fail
        go_roundw
        case rel => exact ⟨3, by omega, by simp, hE2⟩
        case measure => simp [intOf]
      · have hbx : (x3 != 0) = true := by simpa using hx
        clear hx
        go_wp2_with fail
        go_roundw
        case rel => exact ⟨3, by omega, by simp, hE⟩
        case measure => simp [intOf]
    · go_wp2_with fail
      refine (workBegun_any _).mono ?_
      rintro e z ⟨rfl, hw⟩
      go_wp2_with fail
      go_ret
      exact ⟨rfl, F0.trans (hE.trans hw)⟩

set_option maxRecDepth 100000 in
theorem workAlone_lifted (os : Os) (started : os.Started) (H : Type) (enc : TypeId × Value → H) :
    ReturnsInHanded {} Try.checked os 3 .any (Rows.workAloneSpec.pre6 enc Try.prog Try.f3 Rows.workAloneRow.domain false) (Rows.workAloneSpec.post enc Try.prog Try.f3 false true false false) := by
  refine returnsInHanded_of_change (C := Try.checked) own started (by kernel_rfl) Try.func3
    (ChangeSpec.witness6 (enc := enc) (C := Try.checked) false ⟨#[], #[.agg #[.int .i64 0, .int .i64 0, .int .i64 0, .int .i64 0, .int .i64 0, .int .i64 0, .int .i64 0, .int .i64 0, .int .i64 0, .int .i64 0, .int .i64 0, .int .i64 0, .slice none 0 0, .int .i64 0], .int .i64 0, .int .i64 0, .int .i64 0, .int .i64 0, .int .i64 0], []⟩ 8 (by kernel_rfl) (by kernel_rfl) (by kernel_rfl) (by kernel_rfl)) ?_
  intro W base args ds gs before hval0 hW hcnd _
  have hval : ∀ (j : Nat) t v, Try.f3.params[j]? = some t → args[j]? = some v → Value.okWide Try.prog W .any base t v := hval0
  have hW' := hW
  obtain ⟨p, q, hA0, hV, rfl, hfz, hnd⟩ := hW
  have hA : DataW.TrodAll enc Try.prog W 0 (fun _ => true) true Try.f3.params.toList args.toList ds p := hA0
  rw [Try.params3] at hA hval
  obtain ⟨v0, vs0, d0, ds0, p0, q0, hargs, rfl, rfl, h0, r0⟩ := trodAll_cons hA
  obtain ⟨v1, vs1, d1, ds1, p1, q1, rfl, rfl, rfl, h1, r1⟩ := trodAll_cons r0
  obtain ⟨v2, vs2, d2, ds2, p2, q2, rfl, rfl, rfl, h2, r2⟩ := trodAll_cons r1
  obtain ⟨v3, vs3, d3, ds3, p3, q3, rfl, rfl, rfl, h3, r3⟩ := trodAll_cons r2
  obtain ⟨v4, vs4, d4, ds4, p4, q4, rfl, rfl, rfl, h4, r4⟩ := trodAll_cons r3
  obtain ⟨v5, vs5, d5, ds5, p5, q5, rfl, rfl, rfl, h5, r5⟩ := trodAll_cons r4
  obtain ⟨rfl, rfl, rfl⟩ := trodAll_nil r5
  obtain rfl : args = #[v0, v1, v2, v3, v4, v5] := by cases args; simp_all
  obtain ⟨rfl, rfl⟩ := trodVars_none hV
  obtain ⟨P0, Q0, R0, x0, len0, cap0, l0, safe0, rfl, s0⟩ := open_wd (hval 0 28 v0 rfl rfl) h0
  obtain ⟨a1, rfl, b1⟩ := open_num (hval 1 3 v1 rfl rfl)
  obtain ⟨a2, rfl, b2⟩ := open_num (hval 2 3 v2 rfl rfl)
  obtain ⟨a3, rfl, b3⟩ := open_num (hval 3 3 v3 rfl rfl)
  obtain ⟨a4, rfl, b4⟩ := open_num (hval 4 3 v4 rfl rfl)
  obtain ⟨a5, rfl, b5⟩ := open_num (hval 5 3 v5 rfl rfl)
  clear hA0 hval0
  refine (workAlone_go W P0 Q0 R0 x0 len0 cap0 l0 safe0 s0 a1 b1 a2 b2 a3 b3 a4 b4 a5 b5).mono fun e W' ⟨he, bel⟩ => ?_
  subst he
  exact ⟨_, rfl, _, _, _, [], _, [], hW', trodAll_mk1 (shut_bool Try.underlying4 _),
    (trodAll_cons_mk (Below.trod laidOut (by kernel_rfl) (of_decide_eq_true (by kernel_rfl)) h0 bel (lt_of_trod h0))
    (trodAll_cons_mk (Below.trod laidOut (by kernel_rfl) (of_decide_eq_true (by kernel_rfl)) h1 bel (lt_of_trod h1))
    (trodAll_cons_mk (Below.trod laidOut (by kernel_rfl) (of_decide_eq_true (by kernel_rfl)) h2 bel (lt_of_trod h2))
    (trodAll_cons_mk (Below.trod laidOut (by kernel_rfl) (of_decide_eq_true (by kernel_rfl)) h3 bel (lt_of_trod h3))
    (trodAll_cons_mk (Below.trod laidOut (by kernel_rfl) (of_decide_eq_true (by kernel_rfl)) h4 bel (lt_of_trod h4))
    (trodAll_cons_mk (Below.trod laidOut (by kernel_rfl) (of_decide_eq_true (by kernel_rfl)) h5 bel (lt_of_trod h5))
    trodAll_mk0)))))), rfl, bel.frame _, fun h => by cases h⟩

theorem workAlone_over : Rows.workAloneRow.holds Try.pinned (OpenSpec.ofChange Rows.workAloneSpec) :=
  OpenClaim.holds_of_wide 3 Try.f3 rfl rfl rfl rfl rfl rfl rfl ⟨rfl, rfl, rfl, rfl, rfl⟩ rfl rfl rfl rfl rfl (by kernel_rfl) Try.func3 (by kernel_rfl)
    (of_decide_eq_true (by kernel_rfl)) (by unfold Func.isWrapper; first | (rw [if_pos (by decide +kernel)]; kernel_rfl) | (rw [if_neg (by decide +kernel)]; exact ⟨rfl, rfl⟩))
    (fun os started H enc _ => workAlone_lifted os started H enc)
end Go.Proofs.Ytmccggfegllfnaa.B
namespace Go.Proofs.Ytmccggfegllfnaa
theorem workAlone_holds : Rows.WorkAloneSaid := B.workAlone_over
#print axioms workAlone_holds
end Go.Proofs.Ytmccggfegllfnaa

