/- The contract of wire.Read; wireBegun answers true. -/
import Derived.Test.YtbfefocehnafgaaDoorWire8
namespace Go.Proofs.YtbfefocehnafgaaDoor.B
set_option maxRecDepth 100000
open Go.ChangeShapes Go.WideShapes Go.ChangeAt Go.RowKit

/-- What Read answers: its error, and the world. -/
def readX (s : List UInt8) : Int := if 4096 < s.length then 2 else if (fromR s).isSome then 0 else 1
def readV (s : List UInt8) : Wd := if 4096 < s.length then noWd else (fromR s).getD noWd
def RdW (w' : World) (e : Ending) (v : Wd) (x : Int) : Prop :=
  ∃ a cap, e = .returned (.tuple #[wdVal v.p v.q v.r (.slice a v.l.length cap) v.safe, .int .i64 x]) ∧ LogIn w' a v.l.length cap v.l
theorem logIn_none (w : World) : LogIn w none 0 0 [] := ⟨recs_none _, Nat.le_refl _, Nat.zero_le _, fun _ => rfl⟩
set_option maxHeartbeats 4000000 in
theorem wireRead_many (s : List UInt8) (w : World) (h : 4096 < s.length) (hm : Hid (s.length ≤ maxLen)) :
    Calls Tryd.prog 8 #[txt s] w fun e w' => Ext w w' ∧ RdW w' e noWd 2 := by
  have E0 := (Ext.refl w).alloc (.cells zW 28)
  have z := (Blk.new w w.heap.size zW 28 rfl).cell
  have hb : (4096 : Int) < (s.length : Int) := by omega
  have hm2 : s.length ≤ 9223372036854775807 := hm.out
  go_enter Tryd.func8, Tryd.ntmps8
  go_wp2_with fail
  refine bodyPost_ret (v := .tuple #[.agg zW, .int .i64 2]) (by simp [results, Tryd.results8, go_sem, z]) rfl ⟨E0, none, 0, rfl, logIn_none _⟩
set_option maxHeartbeats 8000000 in
theorem wireRead_few (s : List UInt8) (w : World) (h : s.length ≤ 4096) (hE : Early w) (v : Wd) (x : Int) (hv : Hid (v = (fromR s).getD noWd ∧ x = if (fromR s).isSome then 0 else 1)) :
    Calls Tryd.prog 8 #[txt s] w fun e w' => Ext w w' ∧ RdW w' e v x := by
  have E0 := (Ext.refl w).alloc (.cells zW 28)
  have B0 := Blk.new w w.heap.size zW 28 rfl
  have hb : ¬ (4096 : Int) < (s.length : Int) := by omega
  have HP := pick_any s h _ (hE.ext E0)
  have HK := fun W a cap (i : LogIn W a (rdWd s).l.length cap (rdWd s).l) => worldCheck_any (rdWd s).p (rdWd s).q (rdWd s).r a (rdWd s).l.length cap (rdWd s).l (rdWd s).safe W i.recs i.nil i.max
  have HN : Hid (fromR s = none → v = noWd ∧ x = 1) := fun z => by have := hv.out; rw [z] at this; exact this
  have HF : Hid (wholeWd s = false → v = noWd ∧ x = 1) := fun z => HN.out (by unfold fromR; rw [if_neg (fun y => by rw [z] at y; cases y.1)])
  have HG : Hid (wholeWd s = true → worldErr (rdWd s).p (rdWd s).q (rdWd s).r (rdWd s).l (rdWd s).safe = 0 → v = rdWd s ∧ x = 0) := fun z y => by have := hv.out; rw [show fromR s = some (rdWd s) by unfold fromR; rw [if_pos ⟨z, y⟩]] at this; exact this
  have HH : Hid (worldErr (rdWd s).p (rdWd s).q (rdWd s).r (rdWd s).l (rdWd s).safe ≠ 0 → v = noWd ∧ x = 1) := fun y => HN.out (by unfold fromR; rw [if_neg (fun z => y z.2)])
  clear hv HN
  unfold PickAns at HP
  generalize rdWd s = V at *
  obtain ⟨P, Q, R, m, S⟩ := V
  dsimp only at HP HK HG HH
  generalize worldErr P Q R m S = x1 at *
  go_enter Tryd.func8, Tryd.ntmps8
  go_wp2_with fail
  refine HP.mono ?_
  rintro e w1 ⟨hw, ⟨hwh, a1, cap1, rfl, L1, hfr⟩ | ⟨hwh, P2, Q2, R2, a2, n2, cap2, S2, rfl⟩⟩
  · have o1 := (Ext.refl w1).alloc (.cells (wdCells P Q R (.slice a1 m.length cap1) S) 28)
    have X1 := Blk.new w1 w1.heap.size (wdCells P Q R (.slice a1 m.length cap1) S) 28 rfl
    have E1 := (E0.trans hw).trans o1
    have Z1 := (B0.ext hw).ext o1
    have R1 := L1.ext o1
    have hzl := (B0.ext hw).lt
    clear hw o1 L1 HP E0
    have x1c := X1.cell
    go_wp2_with fail
    refine (HK _ _ _ R1).mono ?_
    rintro e w2 ⟨rfl, hw⟩
    have E2 := E1.trans hw
    have Z2 := Z1.ext hw
    have X2 := X1.ext hw
    have R2 := R1.ext hw
    clear hw x1c X1 E1 R1 HK Z1
    have x2 := X2.cell
    have z2 := Z2.cell
    have f2 := Z2.fr
    by_cases hx : x1 = 0
    · have HS : Hid (v = ⟨P, Q, R, m, S⟩ ∧ x = 0) := HG.out hwh hx
      have hx2 : (x1 != 0) = false := by simp [hx]
      have E9 := put14_ext E2 w.heap.size (Nat.le_refl _) (.int .i64 P.c0) (.int .i64 P.c1) (.int .i64 P.c2) (.int .i64 P.last) (.int .i64 Q.c0) (.int .i64 Q.c1) (.int .i64 Q.c2) (.int .i64 Q.last) (.int .i64 R.c0) (.int .i64 R.c1) (.int .i64 R.c2) (.int .i64 R.last) (.slice a1 m.length cap1) (.int .i64 S)
      have HL9 : Hid (LogIn (put14 w2 w.heap.size (.int .i64 P.c0) (.int .i64 P.c1) (.int .i64 P.c2) (.int .i64 P.last) (.int .i64 Q.c0) (.int .i64 Q.c1) (.int .i64 Q.c2) (.int .i64 Q.last) (.int .i64 R.c0) (.int .i64 R.c1) (.int .i64 R.c2) (.int .i64 R.last) (.slice a1 m.length cap1) (.int .i64 S)) a1 m.length cap1 m) := by
        exact R2.gr (put14_gr w2 w.heap.size (.int .i64 P.c0) (.int .i64 P.c1) (.int .i64 P.c2) (.int .i64 P.last) (.int .i64 Q.c0) (.int .i64 Q.c1) (.int .i64 Q.c2) (.int .i64 Q.last) (.int .i64 R.c0) (.int .i64 R.c1) (.int .i64 R.c2) (.int .i64 R.last) (.slice a1 m.length cap1) (.int .i64 S)) (fun ad e e2 => by injection e2 with e2; have := hfr ad e; simp at this; omega)
      clear HF HG HH hwh hx
      go_wp2_with fail
      refine bodyPost_ret (v := .tuple #[.agg (wdCells P Q R (.slice a1 m.length cap1) S), .int .i64 0]) (by simp [results, Tryd.results8, go_sem, z2]) rfl ⟨E9, ?_⟩
      rw [HS.out.1, HS.out.2]
      exact ⟨a1, cap1, rfl, HL9.out⟩
    · have HS : Hid (v = noWd ∧ x = 1) := HH.out hx
      have hx2 : (x1 != 0) = true := by simp [hx]
      have E9 := put14_ext E2 w.heap.size (Nat.le_refl _) (.int .i64 0) (.int .i64 0) (.int .i64 0) (.int .i64 0) (.int .i64 0) (.int .i64 0) (.int .i64 0) (.int .i64 0) (.int .i64 0) (.int .i64 0) (.int .i64 0) (.int .i64 0) (.slice none 0 0) (.int .i64 0)
      clear HF HG HH hwh hx
      go_wp2_with fail
      refine bodyPost_ret (v := .tuple #[.agg zW, .int .i64 1]) (by simp [results, Tryd.results8, go_sem, z2]) rfl ⟨E9, ?_⟩
      rw [HS.out.1, HS.out.2]
      exact ⟨none, 0, rfl, logIn_none _⟩
  · have HS : Hid (v = noWd ∧ x = 1) := HF.out hwh
    have hzl := (B0.ext hw).lt
    have z2 := (B0.ext hw).cell
    have f2 := (B0.ext hw).fr
    have E9 := (put14_ext (E0.trans hw) w.heap.size (Nat.le_refl _) (.int .i64 0) (.int .i64 0) (.int .i64 0) (.int .i64 0) (.int .i64 0) (.int .i64 0) (.int .i64 0) (.int .i64 0) (.int .i64 0) (.int .i64 0) (.int .i64 0) (.int .i64 0) (.slice none 0 0) (.int .i64 0)).alloc (.cells (wdCells P2 Q2 R2 (.slice a2 n2 cap2) S2) 28)
    have ZF := ((put14_blk (B0.ext hw) (.int .i64 0) (.int .i64 0) (.int .i64 0) (.int .i64 0) (.int .i64 0) (.int .i64 0) (.int .i64 0) (.int .i64 0) (.int .i64 0) (.int .i64 0) (.int .i64 0) (.int .i64 0) (.slice none 0 0) (.int .i64 0)).alloc (.cells (wdCells P2 Q2 R2 (.slice a2 n2 cap2) S2) 28)).cell
    clear HF HG HH hwh hw HP HK
    go_wp2_with fail
    refine bodyPost_ret (v := .tuple #[.agg zW, .int .i64 1]) (by first | (simp [results, Tryd.results8, go_sem, z2, hzl]; done) | (simp [results, Tryd.results8, go_sem, ZF]; done)) rfl ⟨E9, ?_⟩
    rw [HS.out.1, HS.out.2]
    exact ⟨none, 0, rfl, logIn_none _⟩
end Go.Proofs.YtbfefocehnafgaaDoor.B
