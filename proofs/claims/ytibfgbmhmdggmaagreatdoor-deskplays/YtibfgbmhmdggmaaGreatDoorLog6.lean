/- The contract of the reference's follows, for a Write; and of follows as a whole. -/
import Derived.Test.YtibfgbmhmdggmaaGreatDoorLog5
import Derived.Test.YtibfgbmhmdggmaaGreatDoorEqA
namespace Go.Proofs.YtibfgbmhmdggmaaGreatDoor.B
set_option maxHeartbeats 32000000
set_option maxRecDepth 100000
open Go.ChangeShapes Go.WideShapes Go.ChangeAt Go.RowKit
theorem follows_c1_00 (a : Option Addr) (len cap : Nat) (l : List Rc) (txn prev old new next : Int) (w : World) (h : Recs w a len l) (hl : len ≤ 1000) (hp : (prev != (lastR l txn : Nat)) = false) (h4 : (stateR l txn == 4) = false) (h2 : (stateR l txn == 2) = false) (h3 : (stateR l txn == 3) = false) (hb : Backs l) (hf : Fits l) :
  Calls Tryz.prog 88 #[.slice a len cap, Rc.val ⟨1, txn, prev, 0, 0, old, new, next⟩] w fun e w' => e = .returned (.bool (followsR l ⟨1, txn, prev, 0, 0, old, new, next⟩)) ∧ Ext w w' := by
 have HG : Hid (followsBad l ⟨1, txn, prev, 0, 0, old, new, next⟩ = false) := by unfold Hid followsBad; simp only [hp, h4, h2, h3, Bool.false_and, Bool.or_self] <;> rfl
 obtain ⟨x0, x1, x2, x3, x4, x5, x6, x7, x8, x9, x10, x11, hps⟩ := len12 (pagesR_len l)
 have HF : Hid (followsR l ⟨1, txn, prev, 0, 0, old, new, next⟩ = (old == x0 && !takenR l txn 0 0)) := by rw [Hid, follows_1 HG.out, hps]; rfl
 have HPV : Hid (Value.agg (ints (pagesR l)) = .agg #[.int .i64 x0, .int .i64 x1, .int .i64 x2, .int .i64 x3, .int .i64 x4, .int .i64 x5, .int .i64 x6, .int .i64 x7, .int .i64 x8, .int .i64 x9, .int .i64 x10, .int .i64 x11]) := by rw [Hid, hps]; rfl
 clear hps
 have i1 : ∀ w, (Instr.index 35 (.agg #[.int .i64 x0, .int .i64 x1, .int .i64 x2, .int .i64 x3, .int .i64 x4, .int .i64 x5, .int .i64 x6, .int .i64 x7, .int .i64 x8, .int .i64 x9, .int .i64 x10, .int .i64 x11]) (.int .i64 0)).run Tryz.prog w = .ok (.agg #[.int .i64 x0, .int .i64 x1, .int .i64 x2, .int .i64 x3]) w := index_pages #[.int .i64 x0, .int .i64 x1, .int .i64 x2, .int .i64 x3, .int .i64 x4, .int .i64 x5, .int .i64 x6, .int .i64 x7, .int .i64 x8, .int .i64 x9, .int .i64 x10, .int .i64 x11] 0 (by decide) (by decide)
 have i2 : ∀ w, (Instr.index 32 (.agg #[.int .i64 x0, .int .i64 x1, .int .i64 x2]) (.int .i64 0)).run Tryz.prog w = .ok (.int .i64 x0) w := index_cells #[.int .i64 x0, .int .i64 x1, .int .i64 x2] 0 _ (by decide) (by decide) rfl
 have i3 := field_cells (.int .i64 x0) (.int .i64 x1) (.int .i64 x2) (.int .i64 x3)
 go_enter Tryz.func88, Tryz.ntmps88
 go_wp2_with fail
 refine (state_any a len cap l txn _ (h.ext ((Ext.refl w).alloc _)) hl).mono ?_
 rintro e w' ⟨rfl, rfl⟩
 go_wp2_with fail
 go_quiet ((go_at_call 54; exact Calls.quiet_of_same (last_any a len cap l txn _ ((h.ext ((Ext.refl w).alloc _)).ext ((Ext.refl _).drewN _)) hl)))
 have W0 : Hid (Ext w ((w.alloc (.cells (Rc.cs ⟨1, txn, prev, 0, 0, old, new, next⟩) 81)).drewN nq)) := ((Ext.refl w).alloc _).drewN _
 have B0 := (Blk.new w w.heap.size (Rc.cs ⟨1, txn, prev, 0, 0, old, new, next⟩) 81 rfl).drewN nq
 go_wp2_with fail
 refine (stands_any a len cap l txn _ (h.ext (((Ext.refl w).alloc _).drewN nq)) hl (hb txn)).mono ?_
 rintro e w1 ⟨⟨a', cap', rfl, hn⟩, hw1⟩
 have hE1 : Ext w w1 := Ext.trans (((Ext.refl w).alloc _).drewN nq) hw1
 have B1 := B0.ext hw1
 clear hw1 B0 W0
 have c1 := B1.cell
 go_wp2_with fail
 cases hx : (old == x0)
 ·refine wp_region_calm (by kernel_rfl) (by kernel_rfl) (fun F hF => ?_)
  have cL := hF.cell B1
  have HPG : Hid (∀ x, Calls Tryz.prog 25 #[.slice a len cap] (F x) fun e w' => e = .returned (.agg #[.int .i64 x0, .int .i64 x1, .int .i64 x2, .int .i64 x3, .int .i64 x4, .int .i64 x5, .int .i64 x6, .int .i64 x7, .int .i64 x8, .int .i64 x9, .int .i64 x10, .int .i64 x11]) ∧ Ext (F x) w') := fun x => by have hh := pages_any a len cap l (F x) (h.ext (hE1.trans (hF.ext x))) hl hf; rw [HPV.out] at hh; exact hh
  repeat (go_big_quiet_step ((go_at_call 25; exact hF.call (HPG.out _))))
  refine wpQuiet_nil ?_
  rintro _ ⟨v, rfl⟩
  go_wp2
  go_ret
  exact ⟨by rw [HF.out, hx]; rfl, hE1.trans (hF.ext v)⟩
 ·refine wp_region_calm (by kernel_rfl) (by kernel_rfl) (fun F hF => ?_)
  have cL := hF.cell B1
  have HPG : Hid (∀ x, Calls Tryz.prog 25 #[.slice a len cap] (F x) fun e w' => e = .returned (.agg #[.int .i64 x0, .int .i64 x1, .int .i64 x2, .int .i64 x3, .int .i64 x4, .int .i64 x5, .int .i64 x6, .int .i64 x7, .int .i64 x8, .int .i64 x9, .int .i64 x10, .int .i64 x11]) ∧ Ext (F x) w') := fun x => by have hh := pages_any a len cap l (F x) (h.ext (hE1.trans (hF.ext x))) hl hf; rw [HPV.out] at hh; exact hh
  repeat (go_big_quiet_step (first
   | (go_at_call 25; exact hF.call (HPG.out _))
   | (go_at_call 49; exact hF.call (taken_any a len cap l txn 0 0 _ (h.ext (hE1.trans (hF.ext _))) hl hb))))
  refine wpQuiet_nil ?_
  rintro _ ⟨v, rfl⟩
  go_wp2
  go_ret
  exact ⟨by rw [HF.out, hx]; rfl, hE1.trans (hF.ext v)⟩
theorem follows_c1_01 (a : Option Addr) (len cap : Nat) (l : List Rc) (txn prev old new next : Int) (w : World) (h : Recs w a len l) (hl : len ≤ 1000) (hp : (prev != (lastR l txn : Nat)) = false) (h4 : (stateR l txn == 4) = false) (h2 : (stateR l txn == 2) = false) (h3 : (stateR l txn == 3) = false) (hb : Backs l) (hf : Fits l) :
  Calls Tryz.prog 88 #[.slice a len cap, Rc.val ⟨1, txn, prev, 0, 1, old, new, next⟩] w fun e w' => e = .returned (.bool (followsR l ⟨1, txn, prev, 0, 1, old, new, next⟩)) ∧ Ext w w' := by
 have HG : Hid (followsBad l ⟨1, txn, prev, 0, 1, old, new, next⟩ = false) := by unfold Hid followsBad; simp only [hp, h4, h2, h3, Bool.false_and, Bool.or_self] <;> rfl
 obtain ⟨x0, x1, x2, x3, x4, x5, x6, x7, x8, x9, x10, x11, hps⟩ := len12 (pagesR_len l)
 have HF : Hid (followsR l ⟨1, txn, prev, 0, 1, old, new, next⟩ = (old == x1 && !takenR l txn 0 1)) := by rw [Hid, follows_1 HG.out, hps]; rfl
 have HPV : Hid (Value.agg (ints (pagesR l)) = .agg #[.int .i64 x0, .int .i64 x1, .int .i64 x2, .int .i64 x3, .int .i64 x4, .int .i64 x5, .int .i64 x6, .int .i64 x7, .int .i64 x8, .int .i64 x9, .int .i64 x10, .int .i64 x11]) := by rw [Hid, hps]; rfl
 clear hps
 have i1 : ∀ w, (Instr.index 35 (.agg #[.int .i64 x0, .int .i64 x1, .int .i64 x2, .int .i64 x3, .int .i64 x4, .int .i64 x5, .int .i64 x6, .int .i64 x7, .int .i64 x8, .int .i64 x9, .int .i64 x10, .int .i64 x11]) (.int .i64 0)).run Tryz.prog w = .ok (.agg #[.int .i64 x0, .int .i64 x1, .int .i64 x2, .int .i64 x3]) w := index_pages #[.int .i64 x0, .int .i64 x1, .int .i64 x2, .int .i64 x3, .int .i64 x4, .int .i64 x5, .int .i64 x6, .int .i64 x7, .int .i64 x8, .int .i64 x9, .int .i64 x10, .int .i64 x11] 0 (by decide) (by decide)
 have i2 : ∀ w, (Instr.index 32 (.agg #[.int .i64 x0, .int .i64 x1, .int .i64 x2]) (.int .i64 1)).run Tryz.prog w = .ok (.int .i64 x1) w := index_cells #[.int .i64 x0, .int .i64 x1, .int .i64 x2] 1 _ (by decide) (by decide) rfl
 have i3 := field_cells (.int .i64 x0) (.int .i64 x1) (.int .i64 x2) (.int .i64 x3)
 go_enter Tryz.func88, Tryz.ntmps88
 go_wp2_with fail
 refine (state_any a len cap l txn _ (h.ext ((Ext.refl w).alloc _)) hl).mono ?_
 rintro e w' ⟨rfl, rfl⟩
 go_wp2_with fail
 go_quiet ((go_at_call 54; exact Calls.quiet_of_same (last_any a len cap l txn _ ((h.ext ((Ext.refl w).alloc _)).ext ((Ext.refl _).drewN _)) hl)))
 have W0 : Hid (Ext w ((w.alloc (.cells (Rc.cs ⟨1, txn, prev, 0, 1, old, new, next⟩) 81)).drewN nq)) := ((Ext.refl w).alloc _).drewN _
 have B0 := (Blk.new w w.heap.size (Rc.cs ⟨1, txn, prev, 0, 1, old, new, next⟩) 81 rfl).drewN nq
 go_wp2_with fail
 refine (stands_any a len cap l txn _ (h.ext (((Ext.refl w).alloc _).drewN nq)) hl (hb txn)).mono ?_
 rintro e w1 ⟨⟨a', cap', rfl, hn⟩, hw1⟩
 have hE1 : Ext w w1 := Ext.trans (((Ext.refl w).alloc _).drewN nq) hw1
 have B1 := B0.ext hw1
 clear hw1 B0 W0
 have c1 := B1.cell
 go_wp2_with fail
 cases hx : (old == x1)
 ·refine wp_region_calm (by kernel_rfl) (by kernel_rfl) (fun F hF => ?_)
  have cL := hF.cell B1
  have HPG : Hid (∀ x, Calls Tryz.prog 25 #[.slice a len cap] (F x) fun e w' => e = .returned (.agg #[.int .i64 x0, .int .i64 x1, .int .i64 x2, .int .i64 x3, .int .i64 x4, .int .i64 x5, .int .i64 x6, .int .i64 x7, .int .i64 x8, .int .i64 x9, .int .i64 x10, .int .i64 x11]) ∧ Ext (F x) w') := fun x => by have hh := pages_any a len cap l (F x) (h.ext (hE1.trans (hF.ext x))) hl hf; rw [HPV.out] at hh; exact hh
  repeat (go_big_quiet_step ((go_at_call 25; exact hF.call (HPG.out _))))
  refine wpQuiet_nil ?_
  rintro _ ⟨v, rfl⟩
  go_wp2
  go_ret
  exact ⟨by rw [HF.out, hx]; rfl, hE1.trans (hF.ext v)⟩
 ·refine wp_region_calm (by kernel_rfl) (by kernel_rfl) (fun F hF => ?_)
  have cL := hF.cell B1
  have HPG : Hid (∀ x, Calls Tryz.prog 25 #[.slice a len cap] (F x) fun e w' => e = .returned (.agg #[.int .i64 x0, .int .i64 x1, .int .i64 x2, .int .i64 x3, .int .i64 x4, .int .i64 x5, .int .i64 x6, .int .i64 x7, .int .i64 x8, .int .i64 x9, .int .i64 x10, .int .i64 x11]) ∧ Ext (F x) w') := fun x => by have hh := pages_any a len cap l (F x) (h.ext (hE1.trans (hF.ext x))) hl hf; rw [HPV.out] at hh; exact hh
  repeat (go_big_quiet_step (first
   | (go_at_call 25; exact hF.call (HPG.out _))
   | (go_at_call 49; exact hF.call (taken_any a len cap l txn 0 1 _ (h.ext (hE1.trans (hF.ext _))) hl hb))))
  refine wpQuiet_nil ?_
  rintro _ ⟨v, rfl⟩
  go_wp2
  go_ret
  exact ⟨by rw [HF.out, hx]; rfl, hE1.trans (hF.ext v)⟩
theorem follows_c1_02 (a : Option Addr) (len cap : Nat) (l : List Rc) (txn prev old new next : Int) (w : World) (h : Recs w a len l) (hl : len ≤ 1000) (hp : (prev != (lastR l txn : Nat)) = false) (h4 : (stateR l txn == 4) = false) (h2 : (stateR l txn == 2) = false) (h3 : (stateR l txn == 3) = false) (hb : Backs l) (hf : Fits l) :
  Calls Tryz.prog 88 #[.slice a len cap, Rc.val ⟨1, txn, prev, 0, 2, old, new, next⟩] w fun e w' => e = .returned (.bool (followsR l ⟨1, txn, prev, 0, 2, old, new, next⟩)) ∧ Ext w w' := by
 have HG : Hid (followsBad l ⟨1, txn, prev, 0, 2, old, new, next⟩ = false) := by unfold Hid followsBad; simp only [hp, h4, h2, h3, Bool.false_and, Bool.or_self] <;> rfl
 obtain ⟨x0, x1, x2, x3, x4, x5, x6, x7, x8, x9, x10, x11, hps⟩ := len12 (pagesR_len l)
 have HF : Hid (followsR l ⟨1, txn, prev, 0, 2, old, new, next⟩ = (old == x2 && !takenR l txn 0 2)) := by rw [Hid, follows_1 HG.out, hps]; rfl
 have HPV : Hid (Value.agg (ints (pagesR l)) = .agg #[.int .i64 x0, .int .i64 x1, .int .i64 x2, .int .i64 x3, .int .i64 x4, .int .i64 x5, .int .i64 x6, .int .i64 x7, .int .i64 x8, .int .i64 x9, .int .i64 x10, .int .i64 x11]) := by rw [Hid, hps]; rfl
 clear hps
 have i1 : ∀ w, (Instr.index 35 (.agg #[.int .i64 x0, .int .i64 x1, .int .i64 x2, .int .i64 x3, .int .i64 x4, .int .i64 x5, .int .i64 x6, .int .i64 x7, .int .i64 x8, .int .i64 x9, .int .i64 x10, .int .i64 x11]) (.int .i64 0)).run Tryz.prog w = .ok (.agg #[.int .i64 x0, .int .i64 x1, .int .i64 x2, .int .i64 x3]) w := index_pages #[.int .i64 x0, .int .i64 x1, .int .i64 x2, .int .i64 x3, .int .i64 x4, .int .i64 x5, .int .i64 x6, .int .i64 x7, .int .i64 x8, .int .i64 x9, .int .i64 x10, .int .i64 x11] 0 (by decide) (by decide)
 have i2 : ∀ w, (Instr.index 32 (.agg #[.int .i64 x0, .int .i64 x1, .int .i64 x2]) (.int .i64 2)).run Tryz.prog w = .ok (.int .i64 x2) w := index_cells #[.int .i64 x0, .int .i64 x1, .int .i64 x2] 2 _ (by decide) (by decide) rfl
 have i3 := field_cells (.int .i64 x0) (.int .i64 x1) (.int .i64 x2) (.int .i64 x3)
 go_enter Tryz.func88, Tryz.ntmps88
 go_wp2_with fail
 refine (state_any a len cap l txn _ (h.ext ((Ext.refl w).alloc _)) hl).mono ?_
 rintro e w' ⟨rfl, rfl⟩
 go_wp2_with fail
 go_quiet ((go_at_call 54; exact Calls.quiet_of_same (last_any a len cap l txn _ ((h.ext ((Ext.refl w).alloc _)).ext ((Ext.refl _).drewN _)) hl)))
 have W0 : Hid (Ext w ((w.alloc (.cells (Rc.cs ⟨1, txn, prev, 0, 2, old, new, next⟩) 81)).drewN nq)) := ((Ext.refl w).alloc _).drewN _
 have B0 := (Blk.new w w.heap.size (Rc.cs ⟨1, txn, prev, 0, 2, old, new, next⟩) 81 rfl).drewN nq
 go_wp2_with fail
 refine (stands_any a len cap l txn _ (h.ext (((Ext.refl w).alloc _).drewN nq)) hl (hb txn)).mono ?_
 rintro e w1 ⟨⟨a', cap', rfl, hn⟩, hw1⟩
 have hE1 : Ext w w1 := Ext.trans (((Ext.refl w).alloc _).drewN nq) hw1
 have B1 := B0.ext hw1
 clear hw1 B0 W0
 have c1 := B1.cell
 go_wp2_with fail
 cases hx : (old == x2)
 ·refine wp_region_calm (by kernel_rfl) (by kernel_rfl) (fun F hF => ?_)
  have cL := hF.cell B1
  have HPG : Hid (∀ x, Calls Tryz.prog 25 #[.slice a len cap] (F x) fun e w' => e = .returned (.agg #[.int .i64 x0, .int .i64 x1, .int .i64 x2, .int .i64 x3, .int .i64 x4, .int .i64 x5, .int .i64 x6, .int .i64 x7, .int .i64 x8, .int .i64 x9, .int .i64 x10, .int .i64 x11]) ∧ Ext (F x) w') := fun x => by have hh := pages_any a len cap l (F x) (h.ext (hE1.trans (hF.ext x))) hl hf; rw [HPV.out] at hh; exact hh
  repeat (go_big_quiet_step ((go_at_call 25; exact hF.call (HPG.out _))))
  refine wpQuiet_nil ?_
  rintro _ ⟨v, rfl⟩
  go_wp2
  go_ret
  exact ⟨by rw [HF.out, hx]; rfl, hE1.trans (hF.ext v)⟩
 ·refine wp_region_calm (by kernel_rfl) (by kernel_rfl) (fun F hF => ?_)
  have cL := hF.cell B1
  have HPG : Hid (∀ x, Calls Tryz.prog 25 #[.slice a len cap] (F x) fun e w' => e = .returned (.agg #[.int .i64 x0, .int .i64 x1, .int .i64 x2, .int .i64 x3, .int .i64 x4, .int .i64 x5, .int .i64 x6, .int .i64 x7, .int .i64 x8, .int .i64 x9, .int .i64 x10, .int .i64 x11]) ∧ Ext (F x) w') := fun x => by have hh := pages_any a len cap l (F x) (h.ext (hE1.trans (hF.ext x))) hl hf; rw [HPV.out] at hh; exact hh
  repeat (go_big_quiet_step (first
   | (go_at_call 25; exact hF.call (HPG.out _))
   | (go_at_call 49; exact hF.call (taken_any a len cap l txn 0 2 _ (h.ext (hE1.trans (hF.ext _))) hl hb))))
  refine wpQuiet_nil ?_
  rintro _ ⟨v, rfl⟩
  go_wp2
  go_ret
  exact ⟨by rw [HF.out, hx]; rfl, hE1.trans (hF.ext v)⟩
theorem follows_c1_10 (a : Option Addr) (len cap : Nat) (l : List Rc) (txn prev old new next : Int) (w : World) (h : Recs w a len l) (hl : len ≤ 1000) (hp : (prev != (lastR l txn : Nat)) = false) (h4 : (stateR l txn == 4) = false) (h2 : (stateR l txn == 2) = false) (h3 : (stateR l txn == 3) = false) (hb : Backs l) (hf : Fits l) :
  Calls Tryz.prog 88 #[.slice a len cap, Rc.val ⟨1, txn, prev, 1, 0, old, new, next⟩] w fun e w' => e = .returned (.bool (followsR l ⟨1, txn, prev, 1, 0, old, new, next⟩)) ∧ Ext w w' := by
 have HG : Hid (followsBad l ⟨1, txn, prev, 1, 0, old, new, next⟩ = false) := by unfold Hid followsBad; simp only [hp, h4, h2, h3, Bool.false_and, Bool.or_self] <;> rfl
 obtain ⟨x0, x1, x2, x3, x4, x5, x6, x7, x8, x9, x10, x11, hps⟩ := len12 (pagesR_len l)
 have HF : Hid (followsR l ⟨1, txn, prev, 1, 0, old, new, next⟩ = (old == x4 && !takenR l txn 1 0)) := by rw [Hid, follows_1 HG.out, hps]; rfl
 have HPV : Hid (Value.agg (ints (pagesR l)) = .agg #[.int .i64 x0, .int .i64 x1, .int .i64 x2, .int .i64 x3, .int .i64 x4, .int .i64 x5, .int .i64 x6, .int .i64 x7, .int .i64 x8, .int .i64 x9, .int .i64 x10, .int .i64 x11]) := by rw [Hid, hps]; rfl
 clear hps
 have i1 : ∀ w, (Instr.index 35 (.agg #[.int .i64 x0, .int .i64 x1, .int .i64 x2, .int .i64 x3, .int .i64 x4, .int .i64 x5, .int .i64 x6, .int .i64 x7, .int .i64 x8, .int .i64 x9, .int .i64 x10, .int .i64 x11]) (.int .i64 1)).run Tryz.prog w = .ok (.agg #[.int .i64 x4, .int .i64 x5, .int .i64 x6, .int .i64 x7]) w := index_pages #[.int .i64 x0, .int .i64 x1, .int .i64 x2, .int .i64 x3, .int .i64 x4, .int .i64 x5, .int .i64 x6, .int .i64 x7, .int .i64 x8, .int .i64 x9, .int .i64 x10, .int .i64 x11] 1 (by decide) (by decide)
 have i2 : ∀ w, (Instr.index 32 (.agg #[.int .i64 x4, .int .i64 x5, .int .i64 x6]) (.int .i64 0)).run Tryz.prog w = .ok (.int .i64 x4) w := index_cells #[.int .i64 x4, .int .i64 x5, .int .i64 x6] 0 _ (by decide) (by decide) rfl
 have i3 := field_cells (.int .i64 x4) (.int .i64 x5) (.int .i64 x6) (.int .i64 x7)
 go_enter Tryz.func88, Tryz.ntmps88
 go_wp2_with fail
 refine (state_any a len cap l txn _ (h.ext ((Ext.refl w).alloc _)) hl).mono ?_
 rintro e w' ⟨rfl, rfl⟩
 go_wp2_with fail
 go_quiet ((go_at_call 54; exact Calls.quiet_of_same (last_any a len cap l txn _ ((h.ext ((Ext.refl w).alloc _)).ext ((Ext.refl _).drewN _)) hl)))
 have W0 : Hid (Ext w ((w.alloc (.cells (Rc.cs ⟨1, txn, prev, 1, 0, old, new, next⟩) 81)).drewN nq)) := ((Ext.refl w).alloc _).drewN _
 have B0 := (Blk.new w w.heap.size (Rc.cs ⟨1, txn, prev, 1, 0, old, new, next⟩) 81 rfl).drewN nq
 go_wp2_with fail
 refine (stands_any a len cap l txn _ (h.ext (((Ext.refl w).alloc _).drewN nq)) hl (hb txn)).mono ?_
 rintro e w1 ⟨⟨a', cap', rfl, hn⟩, hw1⟩
 have hE1 : Ext w w1 := Ext.trans (((Ext.refl w).alloc _).drewN nq) hw1
 have B1 := B0.ext hw1
 clear hw1 B0 W0
 have c1 := B1.cell
 go_wp2_with fail
 cases hx : (old == x4)
 ·refine wp_region_calm (by kernel_rfl) (by kernel_rfl) (fun F hF => ?_)
  have cL := hF.cell B1
  have HPG : Hid (∀ x, Calls Tryz.prog 25 #[.slice a len cap] (F x) fun e w' => e = .returned (.agg #[.int .i64 x0, .int .i64 x1, .int .i64 x2, .int .i64 x3, .int .i64 x4, .int .i64 x5, .int .i64 x6, .int .i64 x7, .int .i64 x8, .int .i64 x9, .int .i64 x10, .int .i64 x11]) ∧ Ext (F x) w') := fun x => by have hh := pages_any a len cap l (F x) (h.ext (hE1.trans (hF.ext x))) hl hf; rw [HPV.out] at hh; exact hh
  repeat (go_big_quiet_step ((go_at_call 25; exact hF.call (HPG.out _))))
  refine wpQuiet_nil ?_
  rintro _ ⟨v, rfl⟩
  go_wp2
  go_ret
  exact ⟨by rw [HF.out, hx]; rfl, hE1.trans (hF.ext v)⟩
 ·refine wp_region_calm (by kernel_rfl) (by kernel_rfl) (fun F hF => ?_)
  have cL := hF.cell B1
  have HPG : Hid (∀ x, Calls Tryz.prog 25 #[.slice a len cap] (F x) fun e w' => e = .returned (.agg #[.int .i64 x0, .int .i64 x1, .int .i64 x2, .int .i64 x3, .int .i64 x4, .int .i64 x5, .int .i64 x6, .int .i64 x7, .int .i64 x8, .int .i64 x9, .int .i64 x10, .int .i64 x11]) ∧ Ext (F x) w') := fun x => by have hh := pages_any a len cap l (F x) (h.ext (hE1.trans (hF.ext x))) hl hf; rw [HPV.out] at hh; exact hh
  repeat (go_big_quiet_step (first
   | (go_at_call 25; exact hF.call (HPG.out _))
   | (go_at_call 49; exact hF.call (taken_any a len cap l txn 1 0 _ (h.ext (hE1.trans (hF.ext _))) hl hb))))
  refine wpQuiet_nil ?_
  rintro _ ⟨v, rfl⟩
  go_wp2
  go_ret
  exact ⟨by rw [HF.out, hx]; rfl, hE1.trans (hF.ext v)⟩
theorem follows_c1_11 (a : Option Addr) (len cap : Nat) (l : List Rc) (txn prev old new next : Int) (w : World) (h : Recs w a len l) (hl : len ≤ 1000) (hp : (prev != (lastR l txn : Nat)) = false) (h4 : (stateR l txn == 4) = false) (h2 : (stateR l txn == 2) = false) (h3 : (stateR l txn == 3) = false) (hb : Backs l) (hf : Fits l) :
  Calls Tryz.prog 88 #[.slice a len cap, Rc.val ⟨1, txn, prev, 1, 1, old, new, next⟩] w fun e w' => e = .returned (.bool (followsR l ⟨1, txn, prev, 1, 1, old, new, next⟩)) ∧ Ext w w' := by
 have HG : Hid (followsBad l ⟨1, txn, prev, 1, 1, old, new, next⟩ = false) := by unfold Hid followsBad; simp only [hp, h4, h2, h3, Bool.false_and, Bool.or_self] <;> rfl
 obtain ⟨x0, x1, x2, x3, x4, x5, x6, x7, x8, x9, x10, x11, hps⟩ := len12 (pagesR_len l)
 have HF : Hid (followsR l ⟨1, txn, prev, 1, 1, old, new, next⟩ = (old == x5 && !takenR l txn 1 1)) := by rw [Hid, follows_1 HG.out, hps]; rfl
 have HPV : Hid (Value.agg (ints (pagesR l)) = .agg #[.int .i64 x0, .int .i64 x1, .int .i64 x2, .int .i64 x3, .int .i64 x4, .int .i64 x5, .int .i64 x6, .int .i64 x7, .int .i64 x8, .int .i64 x9, .int .i64 x10, .int .i64 x11]) := by rw [Hid, hps]; rfl
 clear hps
 have i1 : ∀ w, (Instr.index 35 (.agg #[.int .i64 x0, .int .i64 x1, .int .i64 x2, .int .i64 x3, .int .i64 x4, .int .i64 x5, .int .i64 x6, .int .i64 x7, .int .i64 x8, .int .i64 x9, .int .i64 x10, .int .i64 x11]) (.int .i64 1)).run Tryz.prog w = .ok (.agg #[.int .i64 x4, .int .i64 x5, .int .i64 x6, .int .i64 x7]) w := index_pages #[.int .i64 x0, .int .i64 x1, .int .i64 x2, .int .i64 x3, .int .i64 x4, .int .i64 x5, .int .i64 x6, .int .i64 x7, .int .i64 x8, .int .i64 x9, .int .i64 x10, .int .i64 x11] 1 (by decide) (by decide)
 have i2 : ∀ w, (Instr.index 32 (.agg #[.int .i64 x4, .int .i64 x5, .int .i64 x6]) (.int .i64 1)).run Tryz.prog w = .ok (.int .i64 x5) w := index_cells #[.int .i64 x4, .int .i64 x5, .int .i64 x6] 1 _ (by decide) (by decide) rfl
 have i3 := field_cells (.int .i64 x4) (.int .i64 x5) (.int .i64 x6) (.int .i64 x7)
 go_enter Tryz.func88, Tryz.ntmps88
 go_wp2_with fail
 refine (state_any a len cap l txn _ (h.ext ((Ext.refl w).alloc _)) hl).mono ?_
 rintro e w' ⟨rfl, rfl⟩
 go_wp2_with fail
 go_quiet ((go_at_call 54; exact Calls.quiet_of_same (last_any a len cap l txn _ ((h.ext ((Ext.refl w).alloc _)).ext ((Ext.refl _).drewN _)) hl)))
 have W0 : Hid (Ext w ((w.alloc (.cells (Rc.cs ⟨1, txn, prev, 1, 1, old, new, next⟩) 81)).drewN nq)) := ((Ext.refl w).alloc _).drewN _
 have B0 := (Blk.new w w.heap.size (Rc.cs ⟨1, txn, prev, 1, 1, old, new, next⟩) 81 rfl).drewN nq
 go_wp2_with fail
 refine (stands_any a len cap l txn _ (h.ext (((Ext.refl w).alloc _).drewN nq)) hl (hb txn)).mono ?_
 rintro e w1 ⟨⟨a', cap', rfl, hn⟩, hw1⟩
 have hE1 : Ext w w1 := Ext.trans (((Ext.refl w).alloc _).drewN nq) hw1
 have B1 := B0.ext hw1
 clear hw1 B0 W0
 have c1 := B1.cell
 go_wp2_with fail
 cases hx : (old == x5)
 ·refine wp_region_calm (by kernel_rfl) (by kernel_rfl) (fun F hF => ?_)
  have cL := hF.cell B1
  have HPG : Hid (∀ x, Calls Tryz.prog 25 #[.slice a len cap] (F x) fun e w' => e = .returned (.agg #[.int .i64 x0, .int .i64 x1, .int .i64 x2, .int .i64 x3, .int .i64 x4, .int .i64 x5, .int .i64 x6, .int .i64 x7, .int .i64 x8, .int .i64 x9, .int .i64 x10, .int .i64 x11]) ∧ Ext (F x) w') := fun x => by have hh := pages_any a len cap l (F x) (h.ext (hE1.trans (hF.ext x))) hl hf; rw [HPV.out] at hh; exact hh
  repeat (go_big_quiet_step ((go_at_call 25; exact hF.call (HPG.out _))))
  refine wpQuiet_nil ?_
  rintro _ ⟨v, rfl⟩
  go_wp2
  go_ret
  exact ⟨by rw [HF.out, hx]; rfl, hE1.trans (hF.ext v)⟩
 ·refine wp_region_calm (by kernel_rfl) (by kernel_rfl) (fun F hF => ?_)
  have cL := hF.cell B1
  have HPG : Hid (∀ x, Calls Tryz.prog 25 #[.slice a len cap] (F x) fun e w' => e = .returned (.agg #[.int .i64 x0, .int .i64 x1, .int .i64 x2, .int .i64 x3, .int .i64 x4, .int .i64 x5, .int .i64 x6, .int .i64 x7, .int .i64 x8, .int .i64 x9, .int .i64 x10, .int .i64 x11]) ∧ Ext (F x) w') := fun x => by have hh := pages_any a len cap l (F x) (h.ext (hE1.trans (hF.ext x))) hl hf; rw [HPV.out] at hh; exact hh
  repeat (go_big_quiet_step (first
   | (go_at_call 25; exact hF.call (HPG.out _))
   | (go_at_call 49; exact hF.call (taken_any a len cap l txn 1 1 _ (h.ext (hE1.trans (hF.ext _))) hl hb))))
  refine wpQuiet_nil ?_
  rintro _ ⟨v, rfl⟩
  go_wp2
  go_ret
  exact ⟨by rw [HF.out, hx]; rfl, hE1.trans (hF.ext v)⟩
theorem follows_c1_12 (a : Option Addr) (len cap : Nat) (l : List Rc) (txn prev old new next : Int) (w : World) (h : Recs w a len l) (hl : len ≤ 1000) (hp : (prev != (lastR l txn : Nat)) = false) (h4 : (stateR l txn == 4) = false) (h2 : (stateR l txn == 2) = false) (h3 : (stateR l txn == 3) = false) (hb : Backs l) (hf : Fits l) :
  Calls Tryz.prog 88 #[.slice a len cap, Rc.val ⟨1, txn, prev, 1, 2, old, new, next⟩] w fun e w' => e = .returned (.bool (followsR l ⟨1, txn, prev, 1, 2, old, new, next⟩)) ∧ Ext w w' := by
 have HG : Hid (followsBad l ⟨1, txn, prev, 1, 2, old, new, next⟩ = false) := by unfold Hid followsBad; simp only [hp, h4, h2, h3, Bool.false_and, Bool.or_self] <;> rfl
 obtain ⟨x0, x1, x2, x3, x4, x5, x6, x7, x8, x9, x10, x11, hps⟩ := len12 (pagesR_len l)
 have HF : Hid (followsR l ⟨1, txn, prev, 1, 2, old, new, next⟩ = (old == x6 && !takenR l txn 1 2)) := by rw [Hid, follows_1 HG.out, hps]; rfl
 have HPV : Hid (Value.agg (ints (pagesR l)) = .agg #[.int .i64 x0, .int .i64 x1, .int .i64 x2, .int .i64 x3, .int .i64 x4, .int .i64 x5, .int .i64 x6, .int .i64 x7, .int .i64 x8, .int .i64 x9, .int .i64 x10, .int .i64 x11]) := by rw [Hid, hps]; rfl
 clear hps
 have i1 : ∀ w, (Instr.index 35 (.agg #[.int .i64 x0, .int .i64 x1, .int .i64 x2, .int .i64 x3, .int .i64 x4, .int .i64 x5, .int .i64 x6, .int .i64 x7, .int .i64 x8, .int .i64 x9, .int .i64 x10, .int .i64 x11]) (.int .i64 1)).run Tryz.prog w = .ok (.agg #[.int .i64 x4, .int .i64 x5, .int .i64 x6, .int .i64 x7]) w := index_pages #[.int .i64 x0, .int .i64 x1, .int .i64 x2, .int .i64 x3, .int .i64 x4, .int .i64 x5, .int .i64 x6, .int .i64 x7, .int .i64 x8, .int .i64 x9, .int .i64 x10, .int .i64 x11] 1 (by decide) (by decide)
 have i2 : ∀ w, (Instr.index 32 (.agg #[.int .i64 x4, .int .i64 x5, .int .i64 x6]) (.int .i64 2)).run Tryz.prog w = .ok (.int .i64 x6) w := index_cells #[.int .i64 x4, .int .i64 x5, .int .i64 x6] 2 _ (by decide) (by decide) rfl
 have i3 := field_cells (.int .i64 x4) (.int .i64 x5) (.int .i64 x6) (.int .i64 x7)
 go_enter Tryz.func88, Tryz.ntmps88
 go_wp2_with fail
 refine (state_any a len cap l txn _ (h.ext ((Ext.refl w).alloc _)) hl).mono ?_
 rintro e w' ⟨rfl, rfl⟩
 go_wp2_with fail
 go_quiet ((go_at_call 54; exact Calls.quiet_of_same (last_any a len cap l txn _ ((h.ext ((Ext.refl w).alloc _)).ext ((Ext.refl _).drewN _)) hl)))
 have W0 : Hid (Ext w ((w.alloc (.cells (Rc.cs ⟨1, txn, prev, 1, 2, old, new, next⟩) 81)).drewN nq)) := ((Ext.refl w).alloc _).drewN _
 have B0 := (Blk.new w w.heap.size (Rc.cs ⟨1, txn, prev, 1, 2, old, new, next⟩) 81 rfl).drewN nq
 go_wp2_with fail
 refine (stands_any a len cap l txn _ (h.ext (((Ext.refl w).alloc _).drewN nq)) hl (hb txn)).mono ?_
 rintro e w1 ⟨⟨a', cap', rfl, hn⟩, hw1⟩
 have hE1 : Ext w w1 := Ext.trans (((Ext.refl w).alloc _).drewN nq) hw1
 have B1 := B0.ext hw1
 clear hw1 B0 W0
 have c1 := B1.cell
 go_wp2_with fail
 cases hx : (old == x6)
 ·refine wp_region_calm (by kernel_rfl) (by kernel_rfl) (fun F hF => ?_)
  have cL := hF.cell B1
  have HPG : Hid (∀ x, Calls Tryz.prog 25 #[.slice a len cap] (F x) fun e w' => e = .returned (.agg #[.int .i64 x0, .int .i64 x1, .int .i64 x2, .int .i64 x3, .int .i64 x4, .int .i64 x5, .int .i64 x6, .int .i64 x7, .int .i64 x8, .int .i64 x9, .int .i64 x10, .int .i64 x11]) ∧ Ext (F x) w') := fun x => by have hh := pages_any a len cap l (F x) (h.ext (hE1.trans (hF.ext x))) hl hf; rw [HPV.out] at hh; exact hh
  repeat (go_big_quiet_step ((go_at_call 25; exact hF.call (HPG.out _))))
  refine wpQuiet_nil ?_
  rintro _ ⟨v, rfl⟩
  go_wp2
  go_ret
  exact ⟨by rw [HF.out, hx]; rfl, hE1.trans (hF.ext v)⟩
 ·refine wp_region_calm (by kernel_rfl) (by kernel_rfl) (fun F hF => ?_)
  have cL := hF.cell B1
  have HPG : Hid (∀ x, Calls Tryz.prog 25 #[.slice a len cap] (F x) fun e w' => e = .returned (.agg #[.int .i64 x0, .int .i64 x1, .int .i64 x2, .int .i64 x3, .int .i64 x4, .int .i64 x5, .int .i64 x6, .int .i64 x7, .int .i64 x8, .int .i64 x9, .int .i64 x10, .int .i64 x11]) ∧ Ext (F x) w') := fun x => by have hh := pages_any a len cap l (F x) (h.ext (hE1.trans (hF.ext x))) hl hf; rw [HPV.out] at hh; exact hh
  repeat (go_big_quiet_step (first
   | (go_at_call 25; exact hF.call (HPG.out _))
   | (go_at_call 49; exact hF.call (taken_any a len cap l txn 1 2 _ (h.ext (hE1.trans (hF.ext _))) hl hb))))
  refine wpQuiet_nil ?_
  rintro _ ⟨v, rfl⟩
  go_wp2
  go_ret
  exact ⟨by rw [HF.out, hx]; rfl, hE1.trans (hF.ext v)⟩
theorem follows_c1_20 (a : Option Addr) (len cap : Nat) (l : List Rc) (txn prev old new next : Int) (w : World) (h : Recs w a len l) (hl : len ≤ 1000) (hp : (prev != (lastR l txn : Nat)) = false) (h4 : (stateR l txn == 4) = false) (h2 : (stateR l txn == 2) = false) (h3 : (stateR l txn == 3) = false) (hb : Backs l) (hf : Fits l) :
  Calls Tryz.prog 88 #[.slice a len cap, Rc.val ⟨1, txn, prev, 2, 0, old, new, next⟩] w fun e w' => e = .returned (.bool (followsR l ⟨1, txn, prev, 2, 0, old, new, next⟩)) ∧ Ext w w' := by
 have HG : Hid (followsBad l ⟨1, txn, prev, 2, 0, old, new, next⟩ = false) := by unfold Hid followsBad; simp only [hp, h4, h2, h3, Bool.false_and, Bool.or_self] <;> rfl
 obtain ⟨x0, x1, x2, x3, x4, x5, x6, x7, x8, x9, x10, x11, hps⟩ := len12 (pagesR_len l)
 have HF : Hid (followsR l ⟨1, txn, prev, 2, 0, old, new, next⟩ = (old == x8 && !takenR l txn 2 0)) := by rw [Hid, follows_1 HG.out, hps]; rfl
 have HPV : Hid (Value.agg (ints (pagesR l)) = .agg #[.int .i64 x0, .int .i64 x1, .int .i64 x2, .int .i64 x3, .int .i64 x4, .int .i64 x5, .int .i64 x6, .int .i64 x7, .int .i64 x8, .int .i64 x9, .int .i64 x10, .int .i64 x11]) := by rw [Hid, hps]; rfl
 clear hps
 have i1 : ∀ w, (Instr.index 35 (.agg #[.int .i64 x0, .int .i64 x1, .int .i64 x2, .int .i64 x3, .int .i64 x4, .int .i64 x5, .int .i64 x6, .int .i64 x7, .int .i64 x8, .int .i64 x9, .int .i64 x10, .int .i64 x11]) (.int .i64 2)).run Tryz.prog w = .ok (.agg #[.int .i64 x8, .int .i64 x9, .int .i64 x10, .int .i64 x11]) w := index_pages #[.int .i64 x0, .int .i64 x1, .int .i64 x2, .int .i64 x3, .int .i64 x4, .int .i64 x5, .int .i64 x6, .int .i64 x7, .int .i64 x8, .int .i64 x9, .int .i64 x10, .int .i64 x11] 2 (by decide) (by decide)
 have i2 : ∀ w, (Instr.index 32 (.agg #[.int .i64 x8, .int .i64 x9, .int .i64 x10]) (.int .i64 0)).run Tryz.prog w = .ok (.int .i64 x8) w := index_cells #[.int .i64 x8, .int .i64 x9, .int .i64 x10] 0 _ (by decide) (by decide) rfl
 have i3 := field_cells (.int .i64 x8) (.int .i64 x9) (.int .i64 x10) (.int .i64 x11)
 go_enter Tryz.func88, Tryz.ntmps88
 go_wp2_with fail
 refine (state_any a len cap l txn _ (h.ext ((Ext.refl w).alloc _)) hl).mono ?_
 rintro e w' ⟨rfl, rfl⟩
 go_wp2_with fail
 go_quiet ((go_at_call 54; exact Calls.quiet_of_same (last_any a len cap l txn _ ((h.ext ((Ext.refl w).alloc _)).ext ((Ext.refl _).drewN _)) hl)))
 have W0 : Hid (Ext w ((w.alloc (.cells (Rc.cs ⟨1, txn, prev, 2, 0, old, new, next⟩) 81)).drewN nq)) := ((Ext.refl w).alloc _).drewN _
 have B0 := (Blk.new w w.heap.size (Rc.cs ⟨1, txn, prev, 2, 0, old, new, next⟩) 81 rfl).drewN nq
 go_wp2_with fail
 refine (stands_any a len cap l txn _ (h.ext (((Ext.refl w).alloc _).drewN nq)) hl (hb txn)).mono ?_
 rintro e w1 ⟨⟨a', cap', rfl, hn⟩, hw1⟩
 have hE1 : Ext w w1 := Ext.trans (((Ext.refl w).alloc _).drewN nq) hw1
 have B1 := B0.ext hw1
 clear hw1 B0 W0
 have c1 := B1.cell
 go_wp2_with fail
 cases hx : (old == x8)
 ·refine wp_region_calm (by kernel_rfl) (by kernel_rfl) (fun F hF => ?_)
  have cL := hF.cell B1
  have HPG : Hid (∀ x, Calls Tryz.prog 25 #[.slice a len cap] (F x) fun e w' => e = .returned (.agg #[.int .i64 x0, .int .i64 x1, .int .i64 x2, .int .i64 x3, .int .i64 x4, .int .i64 x5, .int .i64 x6, .int .i64 x7, .int .i64 x8, .int .i64 x9, .int .i64 x10, .int .i64 x11]) ∧ Ext (F x) w') := fun x => by have hh := pages_any a len cap l (F x) (h.ext (hE1.trans (hF.ext x))) hl hf; rw [HPV.out] at hh; exact hh
  repeat (go_big_quiet_step ((go_at_call 25; exact hF.call (HPG.out _))))
  refine wpQuiet_nil ?_
  rintro _ ⟨v, rfl⟩
  go_wp2
  go_ret
  exact ⟨by rw [HF.out, hx]; rfl, hE1.trans (hF.ext v)⟩
 ·refine wp_region_calm (by kernel_rfl) (by kernel_rfl) (fun F hF => ?_)
  have cL := hF.cell B1
  have HPG : Hid (∀ x, Calls Tryz.prog 25 #[.slice a len cap] (F x) fun e w' => e = .returned (.agg #[.int .i64 x0, .int .i64 x1, .int .i64 x2, .int .i64 x3, .int .i64 x4, .int .i64 x5, .int .i64 x6, .int .i64 x7, .int .i64 x8, .int .i64 x9, .int .i64 x10, .int .i64 x11]) ∧ Ext (F x) w') := fun x => by have hh := pages_any a len cap l (F x) (h.ext (hE1.trans (hF.ext x))) hl hf; rw [HPV.out] at hh; exact hh
  repeat (go_big_quiet_step (first
   | (go_at_call 25; exact hF.call (HPG.out _))
   | (go_at_call 49; exact hF.call (taken_any a len cap l txn 2 0 _ (h.ext (hE1.trans (hF.ext _))) hl hb))))
  refine wpQuiet_nil ?_
  rintro _ ⟨v, rfl⟩
  go_wp2
  go_ret
  exact ⟨by rw [HF.out, hx]; rfl, hE1.trans (hF.ext v)⟩
theorem follows_c1_21 (a : Option Addr) (len cap : Nat) (l : List Rc) (txn prev old new next : Int) (w : World) (h : Recs w a len l) (hl : len ≤ 1000) (hp : (prev != (lastR l txn : Nat)) = false) (h4 : (stateR l txn == 4) = false) (h2 : (stateR l txn == 2) = false) (h3 : (stateR l txn == 3) = false) (hb : Backs l) (hf : Fits l) :
  Calls Tryz.prog 88 #[.slice a len cap, Rc.val ⟨1, txn, prev, 2, 1, old, new, next⟩] w fun e w' => e = .returned (.bool (followsR l ⟨1, txn, prev, 2, 1, old, new, next⟩)) ∧ Ext w w' := by
 have HG : Hid (followsBad l ⟨1, txn, prev, 2, 1, old, new, next⟩ = false) := by unfold Hid followsBad; simp only [hp, h4, h2, h3, Bool.false_and, Bool.or_self] <;> rfl
 obtain ⟨x0, x1, x2, x3, x4, x5, x6, x7, x8, x9, x10, x11, hps⟩ := len12 (pagesR_len l)
 have HF : Hid (followsR l ⟨1, txn, prev, 2, 1, old, new, next⟩ = (old == x9 && !takenR l txn 2 1)) := by rw [Hid, follows_1 HG.out, hps]; rfl
 have HPV : Hid (Value.agg (ints (pagesR l)) = .agg #[.int .i64 x0, .int .i64 x1, .int .i64 x2, .int .i64 x3, .int .i64 x4, .int .i64 x5, .int .i64 x6, .int .i64 x7, .int .i64 x8, .int .i64 x9, .int .i64 x10, .int .i64 x11]) := by rw [Hid, hps]; rfl
 clear hps
 have i1 : ∀ w, (Instr.index 35 (.agg #[.int .i64 x0, .int .i64 x1, .int .i64 x2, .int .i64 x3, .int .i64 x4, .int .i64 x5, .int .i64 x6, .int .i64 x7, .int .i64 x8, .int .i64 x9, .int .i64 x10, .int .i64 x11]) (.int .i64 2)).run Tryz.prog w = .ok (.agg #[.int .i64 x8, .int .i64 x9, .int .i64 x10, .int .i64 x11]) w := index_pages #[.int .i64 x0, .int .i64 x1, .int .i64 x2, .int .i64 x3, .int .i64 x4, .int .i64 x5, .int .i64 x6, .int .i64 x7, .int .i64 x8, .int .i64 x9, .int .i64 x10, .int .i64 x11] 2 (by decide) (by decide)
 have i2 : ∀ w, (Instr.index 32 (.agg #[.int .i64 x8, .int .i64 x9, .int .i64 x10]) (.int .i64 1)).run Tryz.prog w = .ok (.int .i64 x9) w := index_cells #[.int .i64 x8, .int .i64 x9, .int .i64 x10] 1 _ (by decide) (by decide) rfl
 have i3 := field_cells (.int .i64 x8) (.int .i64 x9) (.int .i64 x10) (.int .i64 x11)
 go_enter Tryz.func88, Tryz.ntmps88
 go_wp2_with fail
 refine (state_any a len cap l txn _ (h.ext ((Ext.refl w).alloc _)) hl).mono ?_
 rintro e w' ⟨rfl, rfl⟩
 go_wp2_with fail
 go_quiet ((go_at_call 54; exact Calls.quiet_of_same (last_any a len cap l txn _ ((h.ext ((Ext.refl w).alloc _)).ext ((Ext.refl _).drewN _)) hl)))
 have W0 : Hid (Ext w ((w.alloc (.cells (Rc.cs ⟨1, txn, prev, 2, 1, old, new, next⟩) 81)).drewN nq)) := ((Ext.refl w).alloc _).drewN _
 have B0 := (Blk.new w w.heap.size (Rc.cs ⟨1, txn, prev, 2, 1, old, new, next⟩) 81 rfl).drewN nq
 go_wp2_with fail
 refine (stands_any a len cap l txn _ (h.ext (((Ext.refl w).alloc _).drewN nq)) hl (hb txn)).mono ?_
 rintro e w1 ⟨⟨a', cap', rfl, hn⟩, hw1⟩
 have hE1 : Ext w w1 := Ext.trans (((Ext.refl w).alloc _).drewN nq) hw1
 have B1 := B0.ext hw1
 clear hw1 B0 W0
 have c1 := B1.cell
 go_wp2_with fail
 cases hx : (old == x9)
 ·refine wp_region_calm (by kernel_rfl) (by kernel_rfl) (fun F hF => ?_)
  have cL := hF.cell B1
  have HPG : Hid (∀ x, Calls Tryz.prog 25 #[.slice a len cap] (F x) fun e w' => e = .returned (.agg #[.int .i64 x0, .int .i64 x1, .int .i64 x2, .int .i64 x3, .int .i64 x4, .int .i64 x5, .int .i64 x6, .int .i64 x7, .int .i64 x8, .int .i64 x9, .int .i64 x10, .int .i64 x11]) ∧ Ext (F x) w') := fun x => by have hh := pages_any a len cap l (F x) (h.ext (hE1.trans (hF.ext x))) hl hf; rw [HPV.out] at hh; exact hh
  repeat (go_big_quiet_step ((go_at_call 25; exact hF.call (HPG.out _))))
  refine wpQuiet_nil ?_
  rintro _ ⟨v, rfl⟩
  go_wp2
  go_ret
  exact ⟨by rw [HF.out, hx]; rfl, hE1.trans (hF.ext v)⟩
 ·refine wp_region_calm (by kernel_rfl) (by kernel_rfl) (fun F hF => ?_)
  have cL := hF.cell B1
  have HPG : Hid (∀ x, Calls Tryz.prog 25 #[.slice a len cap] (F x) fun e w' => e = .returned (.agg #[.int .i64 x0, .int .i64 x1, .int .i64 x2, .int .i64 x3, .int .i64 x4, .int .i64 x5, .int .i64 x6, .int .i64 x7, .int .i64 x8, .int .i64 x9, .int .i64 x10, .int .i64 x11]) ∧ Ext (F x) w') := fun x => by have hh := pages_any a len cap l (F x) (h.ext (hE1.trans (hF.ext x))) hl hf; rw [HPV.out] at hh; exact hh
  repeat (go_big_quiet_step (first
   | (go_at_call 25; exact hF.call (HPG.out _))
   | (go_at_call 49; exact hF.call (taken_any a len cap l txn 2 1 _ (h.ext (hE1.trans (hF.ext _))) hl hb))))
  refine wpQuiet_nil ?_
  rintro _ ⟨v, rfl⟩
  go_wp2
  go_ret
  exact ⟨by rw [HF.out, hx]; rfl, hE1.trans (hF.ext v)⟩
theorem follows_c1_22 (a : Option Addr) (len cap : Nat) (l : List Rc) (txn prev old new next : Int) (w : World) (h : Recs w a len l) (hl : len ≤ 1000) (hp : (prev != (lastR l txn : Nat)) = false) (h4 : (stateR l txn == 4) = false) (h2 : (stateR l txn == 2) = false) (h3 : (stateR l txn == 3) = false) (hb : Backs l) (hf : Fits l) :
  Calls Tryz.prog 88 #[.slice a len cap, Rc.val ⟨1, txn, prev, 2, 2, old, new, next⟩] w fun e w' => e = .returned (.bool (followsR l ⟨1, txn, prev, 2, 2, old, new, next⟩)) ∧ Ext w w' := by
 have HG : Hid (followsBad l ⟨1, txn, prev, 2, 2, old, new, next⟩ = false) := by unfold Hid followsBad; simp only [hp, h4, h2, h3, Bool.false_and, Bool.or_self] <;> rfl
 obtain ⟨x0, x1, x2, x3, x4, x5, x6, x7, x8, x9, x10, x11, hps⟩ := len12 (pagesR_len l)
 have HF : Hid (followsR l ⟨1, txn, prev, 2, 2, old, new, next⟩ = (old == x10 && !takenR l txn 2 2)) := by rw [Hid, follows_1 HG.out, hps]; rfl
 have HPV : Hid (Value.agg (ints (pagesR l)) = .agg #[.int .i64 x0, .int .i64 x1, .int .i64 x2, .int .i64 x3, .int .i64 x4, .int .i64 x5, .int .i64 x6, .int .i64 x7, .int .i64 x8, .int .i64 x9, .int .i64 x10, .int .i64 x11]) := by rw [Hid, hps]; rfl
 clear hps
 have i1 : ∀ w, (Instr.index 35 (.agg #[.int .i64 x0, .int .i64 x1, .int .i64 x2, .int .i64 x3, .int .i64 x4, .int .i64 x5, .int .i64 x6, .int .i64 x7, .int .i64 x8, .int .i64 x9, .int .i64 x10, .int .i64 x11]) (.int .i64 2)).run Tryz.prog w = .ok (.agg #[.int .i64 x8, .int .i64 x9, .int .i64 x10, .int .i64 x11]) w := index_pages #[.int .i64 x0, .int .i64 x1, .int .i64 x2, .int .i64 x3, .int .i64 x4, .int .i64 x5, .int .i64 x6, .int .i64 x7, .int .i64 x8, .int .i64 x9, .int .i64 x10, .int .i64 x11] 2 (by decide) (by decide)
 have i2 : ∀ w, (Instr.index 32 (.agg #[.int .i64 x8, .int .i64 x9, .int .i64 x10]) (.int .i64 2)).run Tryz.prog w = .ok (.int .i64 x10) w := index_cells #[.int .i64 x8, .int .i64 x9, .int .i64 x10] 2 _ (by decide) (by decide) rfl
 have i3 := field_cells (.int .i64 x8) (.int .i64 x9) (.int .i64 x10) (.int .i64 x11)
 go_enter Tryz.func88, Tryz.ntmps88
 go_wp2_with fail
 refine (state_any a len cap l txn _ (h.ext ((Ext.refl w).alloc _)) hl).mono ?_
 rintro e w' ⟨rfl, rfl⟩
 go_wp2_with fail
 go_quiet ((go_at_call 54; exact Calls.quiet_of_same (last_any a len cap l txn _ ((h.ext ((Ext.refl w).alloc _)).ext ((Ext.refl _).drewN _)) hl)))
 have W0 : Hid (Ext w ((w.alloc (.cells (Rc.cs ⟨1, txn, prev, 2, 2, old, new, next⟩) 81)).drewN nq)) := ((Ext.refl w).alloc _).drewN _
 have B0 := (Blk.new w w.heap.size (Rc.cs ⟨1, txn, prev, 2, 2, old, new, next⟩) 81 rfl).drewN nq
 go_wp2_with fail
 refine (stands_any a len cap l txn _ (h.ext (((Ext.refl w).alloc _).drewN nq)) hl (hb txn)).mono ?_
 rintro e w1 ⟨⟨a', cap', rfl, hn⟩, hw1⟩
 have hE1 : Ext w w1 := Ext.trans (((Ext.refl w).alloc _).drewN nq) hw1
 have B1 := B0.ext hw1
 clear hw1 B0 W0
 have c1 := B1.cell
 go_wp2_with fail
 cases hx : (old == x10)
 ·refine wp_region_calm (by kernel_rfl) (by kernel_rfl) (fun F hF => ?_)
  have cL := hF.cell B1
  have HPG : Hid (∀ x, Calls Tryz.prog 25 #[.slice a len cap] (F x) fun e w' => e = .returned (.agg #[.int .i64 x0, .int .i64 x1, .int .i64 x2, .int .i64 x3, .int .i64 x4, .int .i64 x5, .int .i64 x6, .int .i64 x7, .int .i64 x8, .int .i64 x9, .int .i64 x10, .int .i64 x11]) ∧ Ext (F x) w') := fun x => by have hh := pages_any a len cap l (F x) (h.ext (hE1.trans (hF.ext x))) hl hf; rw [HPV.out] at hh; exact hh
  repeat (go_big_quiet_step ((go_at_call 25; exact hF.call (HPG.out _))))
  refine wpQuiet_nil ?_
  rintro _ ⟨v, rfl⟩
  go_wp2
  go_ret
  exact ⟨by rw [HF.out, hx]; rfl, hE1.trans (hF.ext v)⟩
 ·refine wp_region_calm (by kernel_rfl) (by kernel_rfl) (fun F hF => ?_)
  have cL := hF.cell B1
  have HPG : Hid (∀ x, Calls Tryz.prog 25 #[.slice a len cap] (F x) fun e w' => e = .returned (.agg #[.int .i64 x0, .int .i64 x1, .int .i64 x2, .int .i64 x3, .int .i64 x4, .int .i64 x5, .int .i64 x6, .int .i64 x7, .int .i64 x8, .int .i64 x9, .int .i64 x10, .int .i64 x11]) ∧ Ext (F x) w') := fun x => by have hh := pages_any a len cap l (F x) (h.ext (hE1.trans (hF.ext x))) hl hf; rw [HPV.out] at hh; exact hh
  repeat (go_big_quiet_step (first
   | (go_at_call 25; exact hF.call (HPG.out _))
   | (go_at_call 49; exact hF.call (taken_any a len cap l txn 2 2 _ (h.ext (hE1.trans (hF.ext _))) hl hb))))
  refine wpQuiet_nil ?_
  rintro _ ⟨v, rfl⟩
  go_wp2
  go_ret
  exact ⟨by rw [HF.out, hx]; rfl, hE1.trans (hF.ext v)⟩
end Go.Proofs.YtibfgbmhmdggmaaGreatDoor.B
