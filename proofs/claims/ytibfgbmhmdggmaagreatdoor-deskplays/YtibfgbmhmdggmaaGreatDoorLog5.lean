/- The contract of the reference's follows: may a right record stand behind a right log? -/
import Derived.Test.YtibfgbmhmdggmaaGreatDoorLogA
namespace Go.Proofs.YtibfgbmhmdggmaaGreatDoor.B
set_option maxHeartbeats 32000000
set_option maxRecDepth 100000
open Go.ChangeShapes Go.WideShapes Go.ChangeAt Go.RowKit
def followsBad (l : List Rc) (r : Rc) : Bool := r.prev != (lastR l r.txn : Nat) || (stateR l r.txn == 4 || ((stateR l r.txn == 2 && r.kind != 4) || (stateR l r.txn == 3 && (r.kind != 3 && r.kind != 4))))
theorem follows_bad {l : List Rc} {r : Rc} (h : followsBad l r = true) : followsR l r = false := by
 have h' : (r.prev != (lastR l r.txn : Nat) || (stateR l r.txn == 4 || ((stateR l r.txn == 2 && r.kind != 4) || (stateR l r.txn == 3 && (r.kind != 3 && r.kind != 4))))) = true := h
 unfold followsR; rw [if_pos h']
theorem follows_1 {l : List Rc} {txn prev page cell old new next : Int} (h : followsBad l ⟨1, txn, prev, page, cell, old, new, next⟩ = false) :
  followsR l ⟨1, txn, prev, page, cell, old, new, next⟩ = (old == (pagesR l).getD (page.toNat * 4 + cell.toNat) 0 && !takenR l txn page cell) := by
 unfold followsR; rw [if_neg (by unfold followsBad at h; rw [h]; simp)]; rfl
theorem follows_2 {l : List Rc} {txn prev page cell old new next : Int} (h : followsBad l ⟨2, txn, prev, page, cell, old, new, next⟩ = false) :
  followsR l ⟨2, txn, prev, page, cell, old, new, next⟩ = true := by
 unfold followsR; rw [if_neg (by unfold followsBad at h; rw [h]; simp)]; rfl
theorem follows_3 {l : List Rc} {txn prev page cell old new next : Int} (h : followsBad l ⟨3, txn, prev, page, cell, old, new, next⟩ = false) :
  followsR l ⟨3, txn, prev, page, cell, old, new, next⟩ = (match (standsR l txn).getLast? with
  | none => false
  | some n => match l[n - 1]? with
   | none => false
   | some w => page == w.page && (cell == w.cell && (old == w.new && (new == w.old && next == w.prev)))) := by
 unfold followsR; rw [if_neg (by unfold followsBad at h; rw [h]; simp)]; rfl
theorem follows_4 {l : List Rc} {txn prev page cell old new next : Int} (h : followsBad l ⟨4, txn, prev, page, cell, old, new, next⟩ = false) :
  followsR l ⟨4, txn, prev, page, cell, old, new, next⟩ = (stateR l txn == 2 || (stateR l txn == 3 && (standsR l txn).isEmpty)) := by
 unfold followsR; rw [if_neg (by unfold followsBad at h; rw [h]; simp)]; rfl
theorem follows_prev (a : Option Addr) (len cap : Nat) (l : List Rc) (kind txn prev page cell old new next : Int) (w : World) (h : Recs w a len l) (hl : len ≤ 1000) (hp : (prev != (lastR l txn : Nat)) = true) :
  Calls Tryz.prog 88 #[.slice a len cap, Rc.val ⟨kind, txn, prev, page, cell, old, new, next⟩] w fun e w' => e = .returned (.bool (followsR l ⟨kind, txn, prev, page, cell, old, new, next⟩)) ∧ Ext w w' := by
 have HF : Hid (followsR l ⟨kind, txn, prev, page, cell, old, new, next⟩ = false) := follows_bad (by unfold followsBad; simp only [hp, Bool.true_or])
 go_enter Tryz.func88, Tryz.ntmps88
 go_wp2_with fail
 refine (state_any a len cap l txn _ (h.ext ((Ext.refl w).alloc _)) hl).mono ?_
 rintro e w' ⟨rfl, rfl⟩
 go_wp2_with fail
 go_quiet ((go_at_call 54; exact Calls.quiet_of_same (last_any a len cap l txn _ ((h.ext ((Ext.refl w).alloc _)).ext ((Ext.refl _).drewN _)) hl)))
 go_wp2_with fail
 go_ret
 exact ⟨by rw [HF.out]; rfl, ((Ext.refl w).alloc _).drewN _⟩
theorem follows_s4 (a : Option Addr) (len cap : Nat) (l : List Rc) (kind txn prev page cell old new next : Int) (w : World) (h : Recs w a len l) (hl : len ≤ 1000) (hp : (prev != (lastR l txn : Nat)) = false) (h4 : (stateR l txn == 4) = true) :
  Calls Tryz.prog 88 #[.slice a len cap, Rc.val ⟨kind, txn, prev, page, cell, old, new, next⟩] w fun e w' => e = .returned (.bool (followsR l ⟨kind, txn, prev, page, cell, old, new, next⟩)) ∧ Ext w w' := by
 have HF : Hid (followsR l ⟨kind, txn, prev, page, cell, old, new, next⟩ = false) := follows_bad (by unfold followsBad; simp only [h4, Bool.true_or, Bool.or_true])
 go_enter Tryz.func88, Tryz.ntmps88
 go_wp2_with fail
 refine (state_any a len cap l txn _ (h.ext ((Ext.refl w).alloc _)) hl).mono ?_
 rintro e w' ⟨rfl, rfl⟩
 go_wp2_with fail
 go_quiet ((go_at_call 54; exact Calls.quiet_of_same (last_any a len cap l txn _ ((h.ext ((Ext.refl w).alloc _)).ext ((Ext.refl _).drewN _)) hl)))
 go_wp2_with fail
 go_ret
 exact ⟨by rw [HF.out]; rfl, ((Ext.refl w).alloc _).drewN _⟩
theorem follows_s2 (a : Option Addr) (len cap : Nat) (l : List Rc) (kind txn prev page cell old new next : Int) (w : World) (h : Recs w a len l) (hl : len ≤ 1000) (hp : (prev != (lastR l txn : Nat)) = false) (h4 : (stateR l txn == 4) = false) (h2 : (stateR l txn == 2) = true) (k4 : (kind != 4) = true) :
  Calls Tryz.prog 88 #[.slice a len cap, Rc.val ⟨kind, txn, prev, page, cell, old, new, next⟩] w fun e w' => e = .returned (.bool (followsR l ⟨kind, txn, prev, page, cell, old, new, next⟩)) ∧ Ext w w' := by
 have HF : Hid (followsR l ⟨kind, txn, prev, page, cell, old, new, next⟩ = false) := follows_bad (by unfold followsBad; simp only [h2, k4, Bool.true_and, Bool.true_or, Bool.or_true])
 go_enter Tryz.func88, Tryz.ntmps88
 go_wp2_with fail
 refine (state_any a len cap l txn _ (h.ext ((Ext.refl w).alloc _)) hl).mono ?_
 rintro e w' ⟨rfl, rfl⟩
 go_wp2_with fail
 go_quiet ((go_at_call 54; exact Calls.quiet_of_same (last_any a len cap l txn _ ((h.ext ((Ext.refl w).alloc _)).ext ((Ext.refl _).drewN _)) hl)))
 go_wp2_with fail
 go_ret
 exact ⟨by rw [HF.out]; rfl, ((Ext.refl w).alloc _).drewN _⟩
theorem follows_s3 (a : Option Addr) (len cap : Nat) (l : List Rc) (kind txn prev page cell old new next : Int) (w : World) (h : Recs w a len l) (hl : len ≤ 1000) (hp : (prev != (lastR l txn : Nat)) = false) (h4 : (stateR l txn == 4) = false) (h2 : (stateR l txn == 2) = false) (h3 : (stateR l txn == 3) = true) (k3 : (kind != 3) = true) (k4 : (kind != 4) = true) :
  Calls Tryz.prog 88 #[.slice a len cap, Rc.val ⟨kind, txn, prev, page, cell, old, new, next⟩] w fun e w' => e = .returned (.bool (followsR l ⟨kind, txn, prev, page, cell, old, new, next⟩)) ∧ Ext w w' := by
 have HF : Hid (followsR l ⟨kind, txn, prev, page, cell, old, new, next⟩ = false) := follows_bad (by unfold followsBad; simp only [h3, k3, k4, Bool.true_and, Bool.or_true])
 go_enter Tryz.func88, Tryz.ntmps88
 go_wp2_with fail
 refine (state_any a len cap l txn _ (h.ext ((Ext.refl w).alloc _)) hl).mono ?_
 rintro e w' ⟨rfl, rfl⟩
 go_wp2_with fail
 go_quiet ((go_at_call 54; exact Calls.quiet_of_same (last_any a len cap l txn _ ((h.ext ((Ext.refl w).alloc _)).ext ((Ext.refl _).drewN _)) hl)))
 go_wp2_with fail
 go_ret
 exact ⟨by rw [HF.out]; rfl, ((Ext.refl w).alloc _).drewN _⟩
theorem follows_c2 (a : Option Addr) (len cap : Nat) (l : List Rc) (txn prev page cell old new next : Int) (w : World) (h : Recs w a len l) (hl : len ≤ 1000) (hp : (prev != (lastR l txn : Nat)) = false) (h4 : (stateR l txn == 4) = false) (h2 : (stateR l txn == 2) = false) (h3 : (stateR l txn == 3) = false) (hb : Backs l) :
  Calls Tryz.prog 88 #[.slice a len cap, Rc.val ⟨2, txn, prev, page, cell, old, new, next⟩] w fun e w' => e = .returned (.bool (followsR l ⟨2, txn, prev, page, cell, old, new, next⟩)) ∧ Ext w w' := by
 have HG : Hid (followsBad l ⟨2, txn, prev, page, cell, old, new, next⟩ = false) := by unfold Hid followsBad; simp only [hp, h4, h2, h3, Bool.false_and, Bool.or_self] <;> rfl
 have HF : Hid (followsR l ⟨2, txn, prev, page, cell, old, new, next⟩ = true) := follows_2 HG.out
 go_enter Tryz.func88, Tryz.ntmps88
 go_wp2_with fail
 refine (state_any a len cap l txn _ (h.ext ((Ext.refl w).alloc _)) hl).mono ?_
 rintro e w' ⟨rfl, rfl⟩
 go_wp2_with fail
 go_quiet ((go_at_call 54; exact Calls.quiet_of_same (last_any a len cap l txn _ ((h.ext ((Ext.refl w).alloc _)).ext ((Ext.refl _).drewN _)) hl)))
 have W0 : Hid (Ext w ((w.alloc (.cells (Rc.cs ⟨2, txn, prev, page, cell, old, new, next⟩) 81)).drewN nq)) := ((Ext.refl w).alloc _).drewN _
 have B0 := (Blk.new w w.heap.size (Rc.cs ⟨2, txn, prev, page, cell, old, new, next⟩) 81 rfl).drewN nq
 go_wp2_with fail
 refine (stands_any a len cap l txn _ (h.ext (((Ext.refl w).alloc _).drewN nq)) hl (hb txn)).mono ?_
 rintro e w1 ⟨⟨a', cap', rfl, hn⟩, hw1⟩
 have hE1 : Ext w w1 := Ext.trans (((Ext.refl w).alloc _).drewN nq) hw1
 have B1 := B0.ext hw1
 clear hw1 B0 W0
 have c1 := B1.cell
 go_wp2_with fail
 go_ret
 exact ⟨by rw [HF.out]; rfl, hE1⟩
theorem follows_c4a (a : Option Addr) (len cap : Nat) (l : List Rc) (txn prev page cell old new next : Int) (w : World) (h : Recs w a len l) (hl : len ≤ 1000) (hp : (prev != (lastR l txn : Nat)) = false) (h4 : (stateR l txn == 4) = false) (h2 : (stateR l txn == 2) = true) (hb : Backs l) :
  Calls Tryz.prog 88 #[.slice a len cap, Rc.val ⟨4, txn, prev, page, cell, old, new, next⟩] w fun e w' => e = .returned (.bool (followsR l ⟨4, txn, prev, page, cell, old, new, next⟩)) ∧ Ext w w' := by
 have h3 : (stateR l txn == 3) = false := by rw [beq_eq_false_iff_ne, beq_iff_eq.1 h2]; decide
 have HG : Hid (followsBad l ⟨4, txn, prev, page, cell, old, new, next⟩ = false) := by unfold Hid followsBad; simp only [hp, h4, h2, show ((4 : Int) != 4) = false from rfl, show ((4 : Int) != 3) = true from rfl, Bool.and_false, Bool.or_self] <;> rfl
 have HF := (show Hid _ from follows_4 HG.out)
 go_enter Tryz.func88, Tryz.ntmps88
 go_wp2_with fail
 refine (state_any a len cap l txn _ (h.ext ((Ext.refl w).alloc _)) hl).mono ?_
 rintro e w' ⟨rfl, rfl⟩
 go_wp2_with fail
 go_quiet ((go_at_call 54; exact Calls.quiet_of_same (last_any a len cap l txn _ ((h.ext ((Ext.refl w).alloc _)).ext ((Ext.refl _).drewN _)) hl)))
 have W0 : Hid (Ext w ((w.alloc (.cells (Rc.cs ⟨4, txn, prev, page, cell, old, new, next⟩) 81)).drewN nq)) := ((Ext.refl w).alloc _).drewN _
 have B0 := (Blk.new w w.heap.size (Rc.cs ⟨4, txn, prev, page, cell, old, new, next⟩) 81 rfl).drewN nq
 go_wp2_with fail
 refine (stands_any a len cap l txn _ (h.ext (((Ext.refl w).alloc _).drewN nq)) hl (hb txn)).mono ?_
 rintro e w1 ⟨⟨a', cap', rfl, hn⟩, hw1⟩
 have hE1 : Ext w w1 := Ext.trans (((Ext.refl w).alloc _).drewN nq) hw1
 have B1 := B0.ext hw1
 clear hw1 B0 W0
 have c1 := B1.cell
 go_wp2_with fail
 go_ret
 exact ⟨by rw [HF.out, h2]; rfl, hE1⟩
theorem follows_c4b (a : Option Addr) (len cap : Nat) (l : List Rc) (txn prev page cell old new next : Int) (w : World) (h : Recs w a len l) (hl : len ≤ 1000) (hp : (prev != (lastR l txn : Nat)) = false) (h4 : (stateR l txn == 4) = false) (h2 : (stateR l txn == 2) = false) (h3 : (stateR l txn == 3) = true) (hb : Backs l) :
  Calls Tryz.prog 88 #[.slice a len cap, Rc.val ⟨4, txn, prev, page, cell, old, new, next⟩] w fun e w' => e = .returned (.bool (followsR l ⟨4, txn, prev, page, cell, old, new, next⟩)) ∧ Ext w w' := by
 have HG : Hid (followsBad l ⟨4, txn, prev, page, cell, old, new, next⟩ = false) := by unfold Hid followsBad; simp only [hp, h4, h2, h3, show ((4 : Int) != 4) = false from rfl, show ((4 : Int) != 3) = true from rfl, Bool.and_false, Bool.or_self] <;> rfl
 have HF := (show Hid _ from follows_4 HG.out)
 go_enter Tryz.func88, Tryz.ntmps88
 go_wp2_with fail
 refine (state_any a len cap l txn _ (h.ext ((Ext.refl w).alloc _)) hl).mono ?_
 rintro e w' ⟨rfl, rfl⟩
 go_wp2_with fail
 go_quiet ((go_at_call 54; exact Calls.quiet_of_same (last_any a len cap l txn _ ((h.ext ((Ext.refl w).alloc _)).ext ((Ext.refl _).drewN _)) hl)))
 have W0 : Hid (Ext w ((w.alloc (.cells (Rc.cs ⟨4, txn, prev, page, cell, old, new, next⟩) 81)).drewN nq)) := ((Ext.refl w).alloc _).drewN _
 have B0 := (Blk.new w w.heap.size (Rc.cs ⟨4, txn, prev, page, cell, old, new, next⟩) 81 rfl).drewN nq
 go_wp2_with fail
 refine (stands_any a len cap l txn _ (h.ext (((Ext.refl w).alloc _).drewN nq)) hl (hb txn)).mono ?_
 rintro e w1 ⟨⟨a', cap', rfl, hn⟩, hw1⟩
 have hE1 : Ext w w1 := Ext.trans (((Ext.refl w).alloc _).drewN nq) hw1
 have B1 := B0.ext hw1
 clear hw1 B0 W0
 have c1 := B1.cell
 have HN : Hid (standsR l txn = standsR l txn) := rfl
 generalize hns : standsR l txn = ns at *
 have HNS := (show Hid _ from hns)
 clear hns HN
 cases ns with
 | nil =>
  go_wp2_with fail
  go_ret
  exact ⟨by rw [HF.out, h2, h3]; rfl, hE1⟩
 | cons x ns =>
  have hne : (((ns.length : Int) + 1) == 0) = false := by rw [beq_eq_false_iff_ne]; omega
  go_wp2_with fail
  go_ret
  exact ⟨by rw [HF.out, h2, h3]; rfl, hE1⟩
theorem follows_c4c (a : Option Addr) (len cap : Nat) (l : List Rc) (txn prev page cell old new next : Int) (w : World) (h : Recs w a len l) (hl : len ≤ 1000) (hp : (prev != (lastR l txn : Nat)) = false) (h4 : (stateR l txn == 4) = false) (h2 : (stateR l txn == 2) = false) (h3 : (stateR l txn == 3) = false) (hb : Backs l) :
  Calls Tryz.prog 88 #[.slice a len cap, Rc.val ⟨4, txn, prev, page, cell, old, new, next⟩] w fun e w' => e = .returned (.bool (followsR l ⟨4, txn, prev, page, cell, old, new, next⟩)) ∧ Ext w w' := by
 have HG : Hid (followsBad l ⟨4, txn, prev, page, cell, old, new, next⟩ = false) := by unfold Hid followsBad; simp only [hp, h4, h2, h3, Bool.false_and, Bool.or_self] <;> rfl
 have HF := (show Hid _ from follows_4 HG.out)
 go_enter Tryz.func88, Tryz.ntmps88
 go_wp2_with fail
 refine (state_any a len cap l txn _ (h.ext ((Ext.refl w).alloc _)) hl).mono ?_
 rintro e w' ⟨rfl, rfl⟩
 go_wp2_with fail
 go_quiet ((go_at_call 54; exact Calls.quiet_of_same (last_any a len cap l txn _ ((h.ext ((Ext.refl w).alloc _)).ext ((Ext.refl _).drewN _)) hl)))
 have W0 : Hid (Ext w ((w.alloc (.cells (Rc.cs ⟨4, txn, prev, page, cell, old, new, next⟩) 81)).drewN nq)) := ((Ext.refl w).alloc _).drewN _
 have B0 := (Blk.new w w.heap.size (Rc.cs ⟨4, txn, prev, page, cell, old, new, next⟩) 81 rfl).drewN nq
 go_wp2_with fail
 refine (stands_any a len cap l txn _ (h.ext (((Ext.refl w).alloc _).drewN nq)) hl (hb txn)).mono ?_
 rintro e w1 ⟨⟨a', cap', rfl, hn⟩, hw1⟩
 have hE1 : Ext w w1 := Ext.trans (((Ext.refl w).alloc _).drewN nq) hw1
 have B1 := B0.ext hw1
 clear hw1 B0 W0
 have c1 := B1.cell
 go_wp2_with fail
 go_ret
 exact ⟨by rw [HF.out, h2, h3]; rfl, hE1⟩
theorem follows_c3a (a : Option Addr) (len cap : Nat) (l : List Rc) (txn prev page cell old new next : Int) (w : World) (h : Recs w a len l) (hl : len ≤ 1000) (hp : (prev != (lastR l txn : Nat)) = false) (h4 : (stateR l txn == 4) = false) (h2 : (stateR l txn == 2) = false) (h3 : (stateR l txn == 3) = false) (hb : Backs l) :
  Calls Tryz.prog 88 #[.slice a len cap, Rc.val ⟨3, txn, prev, page, cell, old, new, next⟩] w fun e w' => e = .returned (.bool (followsR l ⟨3, txn, prev, page, cell, old, new, next⟩)) ∧ Ext w w' := by
 have HG : Hid (followsBad l ⟨3, txn, prev, page, cell, old, new, next⟩ = false) := by unfold Hid followsBad; simp only [hp, h4, h2, h3, Bool.false_and, Bool.or_self] <;> rfl
 have HF := (show Hid _ from follows_3 HG.out)
 go_enter Tryz.func88, Tryz.ntmps88
 go_wp2_with fail
 refine (state_any a len cap l txn _ (h.ext ((Ext.refl w).alloc _)) hl).mono ?_
 rintro e w' ⟨rfl, rfl⟩
 go_wp2_with fail
 go_quiet ((go_at_call 54; exact Calls.quiet_of_same (last_any a len cap l txn _ ((h.ext ((Ext.refl w).alloc _)).ext ((Ext.refl _).drewN _)) hl)))
 have W0 : Hid (Ext w ((w.alloc (.cells (Rc.cs ⟨3, txn, prev, page, cell, old, new, next⟩) 81)).drewN nq)) := ((Ext.refl w).alloc _).drewN _
 have B0 := (Blk.new w w.heap.size (Rc.cs ⟨3, txn, prev, page, cell, old, new, next⟩) 81 rfl).drewN nq
 go_wp2_with fail
 refine (stands_any a len cap l txn _ (h.ext (((Ext.refl w).alloc _).drewN nq)) hl (hb txn)).mono ?_
 rintro e w1 ⟨⟨a', cap', rfl, hn⟩, hw1⟩
 have hE1 : Ext w w1 := Ext.trans (((Ext.refl w).alloc _).drewN nq) hw1
 have B1 := B0.ext hw1
 clear hw1 B0 W0
 have c1 := B1.cell
 have hmem : ∀ n ∈ standsR l txn, 1 ≤ n ∧ n ≤ l.length := fun n hn => standsR_mem hn
 have hnl : (standsR l txn).length ≤ 1000 := Nat.le_trans (standsR_le _ _) (by rw [h.len]; exact hl)
 rcases List.eq_nil_or_concat (standsR l txn) with hns | ⟨ms, n, hns⟩
 ·have HNS := (show Hid _ from hns)
  rw [hns] at hn
  rw [hns]
  clear hns hmem hnl
  go_wp2_with fail
  go_ret
  exact ⟨by rw [HF.out, HNS.out]; rfl, hE1⟩
 ·rw [List.concat_eq_append] at hns
  have HNS := (show Hid _ from hns)
  rw [hns] at hn hmem hnl
  rw [hns]
  clear hns
  obtain ⟨n1, n2⟩ := hmem n (by simp)
  clear hmem
  obtain ⟨q, rfl⟩ : ∃ q, n = q + 1 := ⟨n - 1, by omega⟩
  have hq : q < len := by rw [h.len] at n2; omega
  rcases hn with hn | ⟨b, rfl, hc⟩
  ·simp at hn
  have hcm : w1.cell? ⟨b, ms.length, none⟩ = some (.int .i64 ((q : Int) + 1)) := by
   have := hc ms.length (by simp)
   simpa using this
  clear hc
  obtain ⟨b2, off, rfl, hql, hrec⟩ := (h.ext hE1).at hq
  have HL : Hid (l[q + 1 - 1]? = some l[q]) := by rw [Hid, Nat.add_sub_cancel, List.getElem?_eq_getElem hql]
  have HF' : Hid (followsR l ⟨3, txn, prev, page, cell, old, new, next⟩ = (page == l[q].page && (cell == l[q].cell && (old == l[q].new && (new == l[q].old && next == l[q].prev))))) := by
   rw [Hid, HF.out, HNS.out, List.getLast?_concat]
   simp only [HL.out]
  clear HF HL
  obtain ⟨h0, h1, h2', h3', h4', h5, h6, h7⟩ := hrec
  have hne : (((ms.length : Int) + 1) == 0) = false := by rw [beq_eq_false_iff_ne]; omega
  have hml : ms.length ≤ 1000 := by simp at hnl; omega
  generalize l[q] = v at *
  have l1 := B1.lt
  rw [List.length_append, List.length_singleton]
  cases k1 : (page == v.page)
  ·go_wp2_with fail
   go_ret
   exact ⟨by rw [HF'.out, k1]; rfl, hE1.alloc _⟩
  ·cases k2 : (cell == v.cell)
   ·go_wp2_with fail
    go_ret
    exact ⟨by rw [HF'.out, k1, k2]; rfl, hE1.alloc _⟩
   ·cases k3 : (old == v.new)
    ·go_wp2_with fail
     go_ret
     exact ⟨by rw [HF'.out, k1, k2, k3]; rfl, hE1.alloc _⟩
    ·cases k4 : (new == v.old)
     ·go_wp2_with fail
      go_ret
      exact ⟨by rw [HF'.out, k1, k2, k3, k4]; rfl, hE1.alloc _⟩
     ·go_wp2_with fail
      go_ret
      exact ⟨by rw [HF'.out, k1, k2, k3, k4]; rfl, hE1.alloc _⟩
theorem follows_c3b (a : Option Addr) (len cap : Nat) (l : List Rc) (txn prev page cell old new next : Int) (w : World) (h : Recs w a len l) (hl : len ≤ 1000) (hp : (prev != (lastR l txn : Nat)) = false) (h4 : (stateR l txn == 4) = false) (h2 : (stateR l txn == 2) = false) (h3 : (stateR l txn == 3) = true) (hb : Backs l) :
  Calls Tryz.prog 88 #[.slice a len cap, Rc.val ⟨3, txn, prev, page, cell, old, new, next⟩] w fun e w' => e = .returned (.bool (followsR l ⟨3, txn, prev, page, cell, old, new, next⟩)) ∧ Ext w w' := by
 have HG : Hid (followsBad l ⟨3, txn, prev, page, cell, old, new, next⟩ = false) := by unfold Hid followsBad; simp only [hp, h4, h2, h3, show ((3 : Int) != 3) = false from rfl, show ((3 : Int) != 4) = true from rfl, Bool.false_and, Bool.and_false, Bool.or_self] <;> rfl
 have HF := (show Hid _ from follows_3 HG.out)
 go_enter Tryz.func88, Tryz.ntmps88
 go_wp2_with fail
 refine (state_any a len cap l txn _ (h.ext ((Ext.refl w).alloc _)) hl).mono ?_
 rintro e w' ⟨rfl, rfl⟩
 go_wp2_with fail
 go_quiet ((go_at_call 54; exact Calls.quiet_of_same (last_any a len cap l txn _ ((h.ext ((Ext.refl w).alloc _)).ext ((Ext.refl _).drewN _)) hl)))
 have W0 : Hid (Ext w ((w.alloc (.cells (Rc.cs ⟨3, txn, prev, page, cell, old, new, next⟩) 81)).drewN nq)) := ((Ext.refl w).alloc _).drewN _
 have B0 := (Blk.new w w.heap.size (Rc.cs ⟨3, txn, prev, page, cell, old, new, next⟩) 81 rfl).drewN nq
 go_wp2_with fail
 refine (stands_any a len cap l txn _ (h.ext (((Ext.refl w).alloc _).drewN nq)) hl (hb txn)).mono ?_
 rintro e w1 ⟨⟨a', cap', rfl, hn⟩, hw1⟩
 have hE1 : Ext w w1 := Ext.trans (((Ext.refl w).alloc _).drewN nq) hw1
 have B1 := B0.ext hw1
 clear hw1 B0 W0
 have c1 := B1.cell
 have hmem : ∀ n ∈ standsR l txn, 1 ≤ n ∧ n ≤ l.length := fun n hn => standsR_mem hn
 have hnl : (standsR l txn).length ≤ 1000 := Nat.le_trans (standsR_le _ _) (by rw [h.len]; exact hl)
 rcases List.eq_nil_or_concat (standsR l txn) with hns | ⟨ms, n, hns⟩
 ·have HNS := (show Hid _ from hns)
  rw [hns] at hn
  rw [hns]
  clear hns hmem hnl
  go_wp2_with fail
  go_ret
  exact ⟨by rw [HF.out, HNS.out]; rfl, hE1⟩
 ·rw [List.concat_eq_append] at hns
  have HNS := (show Hid _ from hns)
  rw [hns] at hn hmem hnl
  rw [hns]
  clear hns
  obtain ⟨n1, n2⟩ := hmem n (by simp)
  clear hmem
  obtain ⟨q, rfl⟩ : ∃ q, n = q + 1 := ⟨n - 1, by omega⟩
  have hq : q < len := by rw [h.len] at n2; omega
  rcases hn with hn | ⟨b, rfl, hc⟩
  ·simp at hn
  have hcm : w1.cell? ⟨b, ms.length, none⟩ = some (.int .i64 ((q : Int) + 1)) := by
   have := hc ms.length (by simp)
   simpa using this
  clear hc
  obtain ⟨b2, off, rfl, hql, hrec⟩ := (h.ext hE1).at hq
  have HL : Hid (l[q + 1 - 1]? = some l[q]) := by rw [Hid, Nat.add_sub_cancel, List.getElem?_eq_getElem hql]
  have HF' : Hid (followsR l ⟨3, txn, prev, page, cell, old, new, next⟩ = (page == l[q].page && (cell == l[q].cell && (old == l[q].new && (new == l[q].old && next == l[q].prev))))) := by
   rw [Hid, HF.out, HNS.out, List.getLast?_concat]
   simp only [HL.out]
  clear HF HL
  obtain ⟨h0, h1, h2', h3', h4', h5, h6, h7⟩ := hrec
  have hne : (((ms.length : Int) + 1) == 0) = false := by rw [beq_eq_false_iff_ne]; omega
  have hml : ms.length ≤ 1000 := by simp at hnl; omega
  generalize l[q] = v at *
  have l1 := B1.lt
  rw [List.length_append, List.length_singleton]
  cases k1 : (page == v.page)
  ·go_wp2_with fail
   go_ret
   exact ⟨by rw [HF'.out, k1]; rfl, hE1.alloc _⟩
  ·cases k2 : (cell == v.cell)
   ·go_wp2_with fail
    go_ret
    exact ⟨by rw [HF'.out, k1, k2]; rfl, hE1.alloc _⟩
   ·cases k3 : (old == v.new)
    ·go_wp2_with fail
     go_ret
     exact ⟨by rw [HF'.out, k1, k2, k3]; rfl, hE1.alloc _⟩
    ·cases k4 : (new == v.old)
     ·go_wp2_with fail
      go_ret
      exact ⟨by rw [HF'.out, k1, k2, k3, k4]; rfl, hE1.alloc _⟩
     ·go_wp2_with fail
      go_ret
      exact ⟨by rw [HF'.out, k1, k2, k3, k4]; rfl, hE1.alloc _⟩
end Go.Proofs.YtibfgbmhmdggmaaGreatDoor.B
