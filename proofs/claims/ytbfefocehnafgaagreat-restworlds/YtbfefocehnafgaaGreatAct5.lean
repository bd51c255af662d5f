/- actBegun answers true. -/
import Derived.Test.YtbfefocehnafgaaGreatAct4
import Derived.Test.YtbfefocehnafgaaGreatLogLA
namespace Go.Proofs.YtbfefocehnafgaaGreat.B
set_option maxRecDepth 100000
open Go.ChangeShapes Go.WideShapes Go.ChangeAt Go.RowKit

theorem err_len {W : Wd} (h : W.err = 0) : W.l.length ≤ 60 := right_len _ (logErr_zero (worldErr_zero h).1).2
theorem doV_len (W : Wd) (x : Ac) : (doV W x).l.length ≤ 60 := by
  unfold doV
  split
  · rename_i h; exact err_len (do_right h).2.1
  · exact Nat.zero_le _
theorem allV_len (l : List Ac) : (allV l).l.length ≤ 60 := by
  unfold allV
  split
  · exact Nat.zero_le _
  · exact err_len (doneW_err l)
def flatA (l : List Ac) : List Value := l.flatMap Ac.cs
theorem flatA_at : ∀ (l : List Ac) (i : Nat) (h : i < l.length) (j : Nat), j < 5 → (flatA l)[i * 5 + j]? = l[i].cs[j]? := by
  intro l
  induction l with
  | nil => intro i h; exact absurd h (Nat.not_lt_zero i)
  | cons x xs ih =>
    intro i h j hj
    unfold flatA
    rw [List.flatMap_cons]
    cases i with
    | zero => rw [Nat.zero_mul, Nat.zero_add, List.getElem?_append_left (by exact hj)]; rfl
    | succ i =>
      rw [List.getElem?_append_right (by show 5 ≤ _; omega)]
      have : (i + 1) * 5 + j - (Ac.cs x).length = i * 5 + j := by show (i + 1) * 5 + j - 5 = _; omega
      rw [this]
      exact ih i (by simpa using h) j hj
theorem acts_blk {w : World} {b : Nat} {t : TypeId} {l : List Ac} (h : Blk w b (flatA l).toArray t) : Acts w (some ⟨b, 0, none⟩) l.length l := by
  refine ⟨rfl, Or.inr ⟨b, 0, rfl, fun i hi => ?_⟩⟩
  have g : ∀ j, j < 5 → w.cell? ⟨b, 0 + i * 5 + j, none⟩ = l[i].cs[j]? := fun j hj => by
    rw [h.cell, List.getElem?_toArray, Nat.zero_add]
    exact flatA_at l i hi j hj
  exact ⟨g 0 (by omega), g 1 (by omega), g 2 (by omega), g 3 (by omega), g 4 (by omega)⟩
def begunA : List Ac := [⟨1, 1, 0, 0, 5⟩, ⟨5, 0, 0, 0, 0⟩, ⟨1, 2, 0, 0, 6⟩, ⟨1, 2, 1, 0, 7⟩, ⟨2, 2, 0, 0, 0⟩, ⟨6, 0, 0, 0, 0⟩]
theorem ab1 : (allV begunA).l.length = 6 := by decide +kernel
theorem ab2 : allN begunA = 5 := by decide +kernel
theorem ab3 : (allV begunA).p.c0 = 0 := by decide +kernel
theorem ab4 : (allV begunA).q.c0 = 7 := by decide +kernel
theorem begun_all (b : Nat) (w : World) (h : Blk w b (flatA begunA).toArray 30) :
    Calls Tryz.prog 13 #[.slice (some ⟨b, 0, none⟩) 6 6] w fun e w' => Ext w w' ∧ ∃ (P Q R : Pg) (a : Option Addr) (cap : Nat) (s : Int), e = .returned (.tuple #[wdVal P Q R (.slice a 6 cap) s, .int .i64 5, .int .i64 0]) ∧ P.c0 = 0 ∧ Q.c0 = 7 :=
  (actAll_any _ 6 6 begunA w (acts_blk h) (by decide)).mono fun e w' ⟨h1, a, cap, h2, _⟩ => by
    refine ⟨h1, (allV begunA).p, (allV begunA).q, (allV begunA).r, a, cap, (allV begunA).safe, ?_, ab3, ab4⟩
    rw [h2, ab1, ab2]
    rfl
theorem infoAct : (Tryz.prog.info? 30).map (fun i => (i.zero, i.size, i.bytes)) = some (some (.agg #[.int .i64 0, .int .i64 0, .int .i64 0, .int .i64 0, .int .i64 0]), 5, 40) := by kernel_rfl
theorem underActs : Tryz.prog.underlying 37 = some (.slice 30) := by kernel_rfl
theorem make61A (V : World) : ∃ o, (Instr.makeSlice 37 (.int .i64 61) (.int .i64 61)).run Tryz.prog V = .ok (.slice (some ⟨V.heap.size, 0, none⟩) 61 61) (V.alloc o) := by
  obtain ⟨i0, hi, hz0, hz1, hz2⟩ := info_parts infoAct
  exact ⟨_, run_makeSlice (P := Tryz.prog) V 37 30 i0 _ underActs hi hz0 .i64 .i64 61 61 (by decide) (by decide) (by rw [hz1]; decide) (by rw [hz2]; decide) (by decide)⟩
set_option maxHeartbeats 8000000 in
theorem actBegun_any (w : World) :
    Calls Tryz.prog 11 #[] w fun e w' => e = .returned (.bool true) ∧ Ext w w' := by
  have B0 := Blk.new w w.heap.size (flatA begunA).toArray 30 rfl
  have E0 := (Ext.refl w).alloc (.cells (flatA begunA).toArray 30)
  have HB := begun_all w.heap.size _ B0
  have HD := fun W b (h : LogIn W (some ⟨b, 0, none⟩) 9 9 someL) => actDo_any ⟨zPg, ⟨0, 6, 0, 2⟩, zPg, someL, 6⟩ (some ⟨b, 0, none⟩) 9 9 ⟨0, 0, 0, 0, 0⟩ W h
  rw [show doErr ⟨zPg, ⟨0, 6, 0, 2⟩, zPg, someL, 6⟩ ⟨0, 0, 0, 0, 0⟩ = 4 from rfl, show doV ⟨zPg, ⟨0, 6, 0, 2⟩, zPg, someL, 6⟩ ⟨0, 0, 0, 0, 0⟩ = noWd from rfl] at HD
  unfold DoW noWd at HD
  dsimp only [List.length_nil] at HD
  go_enter Tryz.func11, Tryz.ntmps11
  go_wp2_with fail
  refine HB.mono ?_
  rintro e w1 ⟨hw, P, Q, R, a1, cap1, s1, rfl, hP, hQ⟩
  have HP := (show Hid (P.c0 = 0) from hP)
  have HQ := (show Hid (Q.c0 = 7) from hQ)
  clear hP hQ
  have E1 := (E0.trans hw).alloc (.cells (wdCells P Q R (.slice a1 6 cap1) s1) 28)
  have X1 := Blk.new w1 w1.heap.size (wdCells P Q R (.slice a1 6 cap1) s1) 28 rfl
  clear hw E0 B0 HB
  go_wp2_with fail
  refine (lab_any _).mono ?_
  rintro e w2 ⟨b2, rfl, hw, hb2, B2⟩
  have E2 := E1.trans hw
  have X2 := X1.ext hw
  clear hw E1 X1 hb2
  go_wp2_with fail
  refine (HD _ _ (logIn_blk B2 (by decide) (by decide))).mono ?_
  rintro e w3 ⟨hw, a3, cap3, rfl, L3, _⟩
  have o3 := hw.alloc (.cells (wdCells noPg noPg noPg (.slice a3 0 cap3) 0) 28)
  have E3 := E2.trans o3
  have X3 := X2.ext o3
  clear hw o3 E2 X2 B2 HD L3
  obtain ⟨o61, hmk⟩ := make61A (w3.alloc (.cells (wdCells noPg noPg noPg (.slice a3 0 cap3) 0) 28))
  go_wp2_with fail
  refine (actAll_many _ 61 61 [] _ (by decide) (by decide)).mono ?_
  rintro e w4 ⟨hw, rfl⟩
  have o4 := (((Ext.refl _).alloc o61).trans hw).alloc (.cells (wdCells noPg noPg noPg (.slice none 0 0) 0) 28)
  have E4 := E3.trans o4
  have X4 := X3.ext o4
  have x4 := X4.cell
  have hp : (P.c0 == 0) = true := by rw [HP.out]; rfl
  have hq : (Q.c0 == 7) = true := by rw [HQ.out]; rfl
  clear hw o4 E3 X3 hmk HP HQ
  go_wp2_with fail
  go_ret
  exact ⟨by first | rfl | simp, E4⟩
end Go.Proofs.YtbfefocehnafgaaGreat.B
