/- PageTrue holds: what is set is there, all else is as it was; set again as it was, the cells are the same. -/
import Derived.Test.YtbmojkcmjoechaaPage2
import Derived.Test.YtbmojkcmjoechaaOpen
import Derived.Deep.RegionHeld3
import Derived.Deep.DeepCutAuto
namespace Go.Proofs.Ytbmojkcmjoechaa.B
open Go.ChangeShapes Go.WideShapes Go.ChangeAt Go.RowKit

theorem setOf_cases (p : Pg) (cell val n : Int) : setOf p cell val n = (⟨0, 0, 0, 0⟩, 3) ∨ (setOf p cell val n = (pgSet p cell val n, 0) ∧ pgErr p = 0 ∧ setBad cell val n = false) := by
  rcases pgErr_cases p with hp | hp
  · cases hb : setBad cell val n
    · exact Or.inr ⟨setOf_good hp hb, hp, rfl⟩
    · exact Or.inl (setOf_bad2 hp hb)
  · exact Or.inl (setOf_bad1 hp)
theorem pgErr_zero (p : Pg) : pgErr p = 0 ↔ (0 ≤ p.c0 ∧ p.c0 ≤ 99 ∧ 0 ≤ p.c1 ∧ p.c1 ≤ 99 ∧ 0 ≤ p.c2 ∧ p.c2 ≤ 99 ∧ 0 ≤ p.last ∧ p.last ≤ 60) := by
  unfold pgErr out
  constructor
  · intro h
    split at h
    · omega
    · rename_i hb; simp at hb; omega
  · intro h
    rw [if_neg]
    simp; omega
theorem setBad_false (cell val n : Int) : setBad cell val n = false ↔ (0 ≤ cell ∧ cell ≤ 2 ∧ 0 ≤ val ∧ val ≤ 99 ∧ 1 ≤ n ∧ n ≤ 60) := by
  simp [setBad, out]; omega
def cellOf (p : Pg) (c : Int) : Int := if c = 0 then p.c0 else if c = 1 then p.c1 else p.c2
theorem back_good (p : Pg) (cell val n : Int) (hp : pgErr p = 0) (hb : setBad cell val n = false) :
    setOf (pgSet p cell val n) cell (cellOf p cell) n = (pgSet (pgSet p cell val n) cell (cellOf p cell) n, 0) ∧ sameCells (pgSet (pgSet p cell val n) cell (cellOf p cell) n) p = true ∧ pgErr (pgSet p cell val n) = 0 := by
  have hc := setBad_cell hb
  rw [pgErr_zero] at hp
  rw [setBad_false] at hb
  have he : pgErr (pgSet p cell val n) = 0 := by
    rw [pgErr_zero]
    rcases hc with rfl | rfl | rfl <;> simp [pgSet] <;> omega
  refine ⟨setOf_good he ?_, ?_, he⟩
  · rw [setBad_false]
    rcases hc with rfl | rfl | rfl <;> simp [cellOf] <;> omega
  · rcases hc with rfl | rfl | rfl <;> simp [cellOf, pgSet, sameCells]

set_option maxHeartbeats 1000000 in
set_option maxRecDepth 100000 in
theorem pageTrue_walk (p : Pg) (cell val n : Int) (w : World) :
    Calls Try.prog 4 #[p.val, .int .i64 cell, .int .i64 val, .int .i64 n] w fun e w' => e = .returned (.bool true) ∧ Ext w w' := by
  rcases setOf_cases p cell val n with hs | ⟨hs, hp, hb⟩
  · have HS := (show Hid _ from hs)
    clear hs
    go_enter Try.func4, Try.ntmps4
    go_wp2_with fail
    refine (set_any p cell val n _).mono ?_
    rintro e w1 ⟨rfl, hw1⟩
    rw [HS.out]
    have hE : Ext w w1 := Ext.trans (by repeat (first | exact Ext.refl _ | apply Ext.alloc)) hw1
    clear hw1
    go_wp2_with fail
    refine (pageBegun_any _).mono ?_
    rintro e w2 ⟨rfl, hw2⟩
    have hE2 : Ext w w2 := (hE.alloc _).trans hw2
    clear hE hw2
    go_wp2_with fail
    go_ret
    exact ⟨rfl, hE2⟩
  · obtain ⟨hk, hsame, herr⟩ := back_good p cell val n hp hb
    have hcell := setBad_cell hb
    have HS := (show Hid _ from hs)
    have HK := (show Hid _ from hk)
    have HM := (show Hid _ from hsame)
    have HR := (show Hid _ from herr)
    clear hs hk hsame herr hp hb
    rcases hcell with rfl | rfl | rfl
    · rw [show cellOf p 0 = p.c0 from rfl] at HK HM
      generalize hx : pgSet p 0 val n = x at *
      generalize hbk : pgSet x 0 p.c0 n = bk at *
      have x0 : x = ⟨val, p.c1, p.c2, n⟩ := by rw [← hx]; rfl
      subst x0
      clear hx hbk
      go_enter Try.func4, Try.ntmps4
      go_wp2_with fail
      refine (set_any p 0 val n _).mono ?_
      rintro e w1 ⟨rfl, hw1⟩
      rw [HS.out]
      have B0 := Blk.ext (k := w.heap.size) (by repeat (first | (apply Blk.new; simp; done) | apply Blk.alloc)) hw1
      have hE : Ext w w1 := Ext.trans (by repeat (first | exact Ext.refl _ | apply Ext.alloc)) hw1
      clear hw1
      go_wp2_with fail
      have C0 := B0.alloc (.cells #[.int .i64 val, .int .i64 p.c1, .int .i64 p.c2, .int .i64 n] 24)
      have C1 := Blk.new w1 w1.heap.size #[.int .i64 val, .int .i64 p.c1, .int .i64 p.c2, .int .i64 n] 24 rfl
      have hE3 := hE.alloc (.cells #[.int .i64 val, .int .i64 p.c1, .int .i64 p.c2, .int .i64 n] 24)
      generalize w1.alloc (.cells #[.int .i64 val, .int .i64 p.c1, .int .i64 p.c2, .int .i64 n] 24) = W at *
      generalize w1.heap.size = bx at *
      clear B0 hE w1
      have KS : Hid (∀ w', Ext W w' → Ext W w' ∧ (∀ o, w'.cell? ⟨w.heap.size, o, none⟩ = #[.int .i64 p.c0, .int .i64 p.c1, .int .i64 p.c2, .int .i64 p.last][o]?) ∧ (∀ o, w'.cell? ⟨bx, o, none⟩ = #[.int .i64 val, .int .i64 p.c1, .int .i64 p.c2, .int .i64 n][o]?)) := fun w' h => ⟨h, (C0.ext h).cell, (C1.ext h).cell⟩
      go_cut [11, 12] (fun s11 s12 wx => ∃ bb : Nat, s11 = .pointer (some ⟨bb, 0, none⟩) ∧ s12 = .int .i64 0 ∧ Blk wx bb #[.int .i64 bk.c0, .int .i64 bk.c1, .int .i64 bk.c2, .int .i64 bk.last] 24 ∧ Ext W wx)
      case first =>
        go_region_held3 (fun w' => Ext W w' ∧ (∀ o, w'.cell? ⟨w.heap.size, o, none⟩ = #[.int .i64 p.c0, .int .i64 p.c1, .int .i64 p.c2, .int .i64 p.last][o]?) ∧ (∀ o, w'.cell? ⟨bx, o, none⟩ = #[.int .i64 val, .int .i64 p.c1, .int .i64 p.c2, .int .i64 n][o]?))
          ((refine KS.out _ ?_; first | exact (Ext.refl W).drew | exact ((Ext.refl W).alloc _).drew | exact hx | exact hx.alloc _ | exact (((hx.setCell hbx _).setCell hbx _).setCell hbx _).setCell hbx _))
          (first
          | (go_at_call 9; refine (set_any ⟨val, p.c1, p.c2, n⟩ 0 p.c0 n _).mono ?_; rintro e w' ⟨rfl, hw'⟩; have hx : Ext W w' := Ext.trans (And.left (by assumption)) hw'; have hbx : W.heap.size ≤ W.heap.size := Nat.le_refl _; have D := Blk.ext (Blk.drew (Blk.new W W.heap.size #[.int .i64 0, .int .i64 0, .int .i64 0, .int .i64 0] 24 rfl)) hw'; have dc := D.cell; have df := D.fr; rw [HK.out])
          | (go_at_call 9; refine (set_any ⟨val, p.c1, p.c2, n⟩ 0 p.c0 n _).mono ?_; rintro e w' ⟨rfl, hw'⟩; have hx : Ext W w' := Ext.trans (And.left (by assumption)) hw'; have hbx : W.heap.size ≤ W.heap.size := Nat.le_refl _; rw [HK.out]))
        · go_wp2_with fail
          go_meet
          case rel => exact ⟨_, rfl, rfl, Blk.new _ _ _ _ rfl, hx.alloc _⟩
        · go_wp2_with fail
          go_meet
          case rel => exact ⟨_, rfl, rfl, (((D.set 0 _).set 1 _).set 2 _).set 3 _, (((hx.setCell hbx _).setCell hbx _).setCell hbx _).setCell hbx _⟩
      case rest =>
        obtain ⟨bb, rfl, rfl, C2, hx⟩ := hcut
        have C0' := C0.ext hx
        have C1' := C1.ext hx
        have hE4 := hE3.trans hx
        clear C0 C1 hE3 hx KS HS HK
        go_wp2_with fail
        go_loopw [13] (fun i wr => ∃ k : Nat, k ≤ 3 ∧ i = .int .i64 k ∧ Ext wc wr) (fun i _ => 3 - (intOf i).toNat)
        case atStart => exact ⟨0, Nat.zero_le _, rfl, Ext.refl _⟩
        case round =>
          obtain ⟨k, hk, rfl, hr⟩ := hrel
          have D0 := C0'.ext hr
          have D1 := C1'.ext hr
          have D2 := C2.ext hr
          have hE5 := hE4.trans hr
          by_cases hlt : k < 3
          · have c0 := D0.cell
            have c1 := D1.cell
            obtain rfl | rfl | rfl : k = 0 ∨ k = 1 ∨ k = 2 := by omega
            · go_wp2_with fail
              go_quiet (fail)
              go_wp2_with fail
              go_roundw
              case rel => exact ⟨1, by omega, by go_num, hr.drewN _⟩
              case measure => simp [intOf]
            · go_wp2_with fail
              go_quiet (fail)
              go_wp2_with fail
              go_roundw
              case rel => exact ⟨2, by omega, by go_num, hr.drewN _⟩
              case measure => simp [intOf]
            · go_wp2_with fail
              go_quiet (fail)
              go_wp2_with fail
              go_roundw
              case rel => exact ⟨3, by omega, by go_num, hr.drewN _⟩
              case measure => simp [intOf]
          · clear C0' C1' C2 hE4 hr
            go_wp2_with fail
            refine (pageBegun_any _).mono ?_
            rintro e w2 ⟨rfl, hw2⟩
            have F0 := D0.ext hw2
            have F1 := D1.ext hw2
            have F2 := D2.ext hw2
            have hE6 := hE5.trans hw2
            clear D0 D1 D2 hE5 hw2
            have c0 := F0.cell
            have c1 := F1.cell
            have c2 := F2.cell
            go_wp2_with fail
            refine (same_any bk p _).mono ?_
            rintro e w3 ⟨rfl, hw3⟩
            rw [HM.out]
            have G1 := F1.ext hw3
            have hE7 := hE6.trans hw3
            clear F0 F1 F2 hE6 hw3 c0 c1 c2
            have c1 := G1.cell
            go_wp2_with fail
            refine (check_any ⟨val, p.c1, p.c2, n⟩ _).mono ?_
            rintro e w4 ⟨rfl, hw4⟩
            rw [HR.out]
            have hE8 := hE7.trans hw4
            go_wp2_with fail
            go_ret
            exact ⟨rfl, hE8⟩
    · rw [show cellOf p 1 = p.c1 from rfl] at HK HM
      generalize hx : pgSet p 1 val n = x at *
      generalize hbk : pgSet x 1 p.c1 n = bk at *
      have x0 : x = ⟨p.c0, val, p.c2, n⟩ := by rw [← hx]; rfl
      subst x0
      clear hx hbk
      go_enter Try.func4, Try.ntmps4
      go_wp2_with fail
      refine (set_any p 1 val n _).mono ?_
      rintro e w1 ⟨rfl, hw1⟩
      rw [HS.out]
      have B0 := Blk.ext (k := w.heap.size) (by repeat (first | (apply Blk.new; simp; done) | apply Blk.alloc)) hw1
      have hE : Ext w w1 := Ext.trans (by repeat (first | exact Ext.refl _ | apply Ext.alloc)) hw1
      clear hw1
      go_wp2_with fail
      have C0 := B0.alloc (.cells #[.int .i64 p.c0, .int .i64 val, .int .i64 p.c2, .int .i64 n] 24)
      have C1 := Blk.new w1 w1.heap.size #[.int .i64 p.c0, .int .i64 val, .int .i64 p.c2, .int .i64 n] 24 rfl
      have hE3 := hE.alloc (.cells #[.int .i64 p.c0, .int .i64 val, .int .i64 p.c2, .int .i64 n] 24)
      generalize w1.alloc (.cells #[.int .i64 p.c0, .int .i64 val, .int .i64 p.c2, .int .i64 n] 24) = W at *
      generalize w1.heap.size = bx at *
      clear B0 hE w1
      have KS : Hid (∀ w', Ext W w' → Ext W w' ∧ (∀ o, w'.cell? ⟨w.heap.size, o, none⟩ = #[.int .i64 p.c0, .int .i64 p.c1, .int .i64 p.c2, .int .i64 p.last][o]?) ∧ (∀ o, w'.cell? ⟨bx, o, none⟩ = #[.int .i64 p.c0, .int .i64 val, .int .i64 p.c2, .int .i64 n][o]?)) := fun w' h => ⟨h, (C0.ext h).cell, (C1.ext h).cell⟩
      go_cut [11, 12] (fun s11 s12 wx => ∃ bb : Nat, s11 = .pointer (some ⟨bb, 0, none⟩) ∧ s12 = .int .i64 0 ∧ Blk wx bb #[.int .i64 bk.c0, .int .i64 bk.c1, .int .i64 bk.c2, .int .i64 bk.last] 24 ∧ Ext W wx)
      case first =>
        go_region_held3 (fun w' => Ext W w' ∧ (∀ o, w'.cell? ⟨w.heap.size, o, none⟩ = #[.int .i64 p.c0, .int .i64 p.c1, .int .i64 p.c2, .int .i64 p.last][o]?) ∧ (∀ o, w'.cell? ⟨bx, o, none⟩ = #[.int .i64 p.c0, .int .i64 val, .int .i64 p.c2, .int .i64 n][o]?))
          ((refine KS.out _ ?_; first | exact (Ext.refl W).drew | exact ((Ext.refl W).alloc _).drew | exact hx | exact hx.alloc _ | exact (((hx.setCell hbx _).setCell hbx _).setCell hbx _).setCell hbx _))
          (first
          | (go_at_call 9; refine (set_any ⟨p.c0, val, p.c2, n⟩ 1 p.c1 n _).mono ?_; rintro e w' ⟨rfl, hw'⟩; have hx : Ext W w' := Ext.trans (And.left (by assumption)) hw'; have hbx : W.heap.size ≤ W.heap.size := Nat.le_refl _; have D := Blk.ext (Blk.drew (Blk.new W W.heap.size #[.int .i64 0, .int .i64 0, .int .i64 0, .int .i64 0] 24 rfl)) hw'; have dc := D.cell; have df := D.fr; rw [HK.out])
          | (go_at_call 9; refine (set_any ⟨p.c0, val, p.c2, n⟩ 1 p.c1 n _).mono ?_; rintro e w' ⟨rfl, hw'⟩; have hx : Ext W w' := Ext.trans (And.left (by assumption)) hw'; have hbx : W.heap.size ≤ W.heap.size := Nat.le_refl _; rw [HK.out]))
        · go_wp2_with fail
          go_meet
          case rel => exact ⟨_, rfl, rfl, Blk.new _ _ _ _ rfl, hx.alloc _⟩
        · go_wp2_with fail
          go_meet
          case rel => exact ⟨_, rfl, rfl, (((D.set 0 _).set 1 _).set 2 _).set 3 _, (((hx.setCell hbx _).setCell hbx _).setCell hbx _).setCell hbx _⟩
      case rest =>
        obtain ⟨bb, rfl, rfl, C2, hx⟩ := hcut
        have C0' := C0.ext hx
        have C1' := C1.ext hx
        have hE4 := hE3.trans hx
        clear C0 C1 hE3 hx KS HS HK
        go_wp2_with fail
        go_loopw [13] (fun i wr => ∃ k : Nat, k ≤ 3 ∧ i = .int .i64 k ∧ Ext wc wr) (fun i _ => 3 - (intOf i).toNat)
        case atStart => exact ⟨0, Nat.zero_le _, rfl, Ext.refl _⟩
        case round =>
          obtain ⟨k, hk, rfl, hr⟩ := hrel
          have D0 := C0'.ext hr
          have D1 := C1'.ext hr
          have D2 := C2.ext hr
          have hE5 := hE4.trans hr
          by_cases hlt : k < 3
          · have c0 := D0.cell
            have c1 := D1.cell
            obtain rfl | rfl | rfl : k = 0 ∨ k = 1 ∨ k = 2 := by omega
            · go_wp2_with fail
              go_quiet (fail)
              go_wp2_with fail
              go_roundw
              case rel => exact ⟨1, by omega, by go_num, hr.drewN _⟩
              case measure => simp [intOf]
            · go_wp2_with fail
              go_quiet (fail)
              go_wp2_with fail
              go_roundw
              case rel => exact ⟨2, by omega, by go_num, hr.drewN _⟩
              case measure => simp [intOf]
            · go_wp2_with fail
              go_quiet (fail)
              go_wp2_with fail
              go_roundw
              case rel => exact ⟨3, by omega, by go_num, hr.drewN _⟩
              case measure => simp [intOf]
          · clear C0' C1' C2 hE4 hr
            go_wp2_with fail
            refine (pageBegun_any _).mono ?_
            rintro e w2 ⟨rfl, hw2⟩
            have F0 := D0.ext hw2
            have F1 := D1.ext hw2
            have F2 := D2.ext hw2
            have hE6 := hE5.trans hw2
            clear D0 D1 D2 hE5 hw2
            have c0 := F0.cell
            have c1 := F1.cell
            have c2 := F2.cell
            go_wp2_with fail
            refine (same_any bk p _).mono ?_
            rintro e w3 ⟨rfl, hw3⟩
            rw [HM.out]
            have G1 := F1.ext hw3
            have hE7 := hE6.trans hw3
            clear F0 F1 F2 hE6 hw3 c0 c1 c2
            have c1 := G1.cell
            go_wp2_with fail
            refine (check_any ⟨p.c0, val, p.c2, n⟩ _).mono ?_
            rintro e w4 ⟨rfl, hw4⟩
            rw [HR.out]
            have hE8 := hE7.trans hw4
            go_wp2_with fail
            go_ret
            exact ⟨rfl, hE8⟩
    · rw [show cellOf p 2 = p.c2 from rfl] at HK HM
      generalize hx : pgSet p 2 val n = x at *
      generalize hbk : pgSet x 2 p.c2 n = bk at *
      have x0 : x = ⟨p.c0, p.c1, val, n⟩ := by rw [← hx]; rfl
      subst x0
      clear hx hbk
      go_enter Try.func4, Try.ntmps4
      go_wp2_with fail
      refine (set_any p 2 val n _).mono ?_
      rintro e w1 ⟨rfl, hw1⟩
      rw [HS.out]
      have B0 := Blk.ext (k := w.heap.size) (by repeat (first | (apply Blk.new; simp; done) | apply Blk.alloc)) hw1
      have hE : Ext w w1 := Ext.trans (by repeat (first | exact Ext.refl _ | apply Ext.alloc)) hw1
      clear hw1
      go_wp2_with fail
      have C0 := B0.alloc (.cells #[.int .i64 p.c0, .int .i64 p.c1, .int .i64 val, .int .i64 n] 24)
      have C1 := Blk.new w1 w1.heap.size #[.int .i64 p.c0, .int .i64 p.c1, .int .i64 val, .int .i64 n] 24 rfl
      have hE3 := hE.alloc (.cells #[.int .i64 p.c0, .int .i64 p.c1, .int .i64 val, .int .i64 n] 24)
      generalize w1.alloc (.cells #[.int .i64 p.c0, .int .i64 p.c1, .int .i64 val, .int .i64 n] 24) = W at *
      generalize w1.heap.size = bx at *
      clear B0 hE w1
      have KS : Hid (∀ w', Ext W w' → Ext W w' ∧ (∀ o, w'.cell? ⟨w.heap.size, o, none⟩ = #[.int .i64 p.c0, .int .i64 p.c1, .int .i64 p.c2, .int .i64 p.last][o]?) ∧ (∀ o, w'.cell? ⟨bx, o, none⟩ = #[.int .i64 p.c0, .int .i64 p.c1, .int .i64 val, .int .i64 n][o]?)) := fun w' h => ⟨h, (C0.ext h).cell, (C1.ext h).cell⟩
      go_cut [11, 12] (fun s11 s12 wx => ∃ bb : Nat, s11 = .pointer (some ⟨bb, 0, none⟩) ∧ s12 = .int .i64 0 ∧ Blk wx bb #[.int .i64 bk.c0, .int .i64 bk.c1, .int .i64 bk.c2, .int .i64 bk.last] 24 ∧ Ext W wx)
      case first =>
        go_region_held3 (fun w' => Ext W w' ∧ (∀ o, w'.cell? ⟨w.heap.size, o, none⟩ = #[.int .i64 p.c0, .int .i64 p.c1, .int .i64 p.c2, .int .i64 p.last][o]?) ∧ (∀ o, w'.cell? ⟨bx, o, none⟩ = #[.int .i64 p.c0, .int .i64 p.c1, .int .i64 val, .int .i64 n][o]?))
          ((refine KS.out _ ?_; first | exact (Ext.refl W).drew | exact ((Ext.refl W).alloc _).drew | exact hx | exact hx.alloc _ | exact (((hx.setCell hbx _).setCell hbx _).setCell hbx _).setCell hbx _))
          (first
          | (go_at_call 9; refine (set_any ⟨p.c0, p.c1, val, n⟩ 2 p.c2 n _).mono ?_; rintro e w' ⟨rfl, hw'⟩; have hx : Ext W w' := Ext.trans (And.left (by assumption)) hw'; have hbx : W.heap.size ≤ W.heap.size := Nat.le_refl _; have D := Blk.ext (Blk.drew (Blk.new W W.heap.size #[.int .i64 0, .int .i64 0, .int .i64 0, .int .i64 0] 24 rfl)) hw'; have dc := D.cell; have df := D.fr; rw [HK.out])
          | (go_at_call 9; refine (set_any ⟨p.c0, p.c1, val, n⟩ 2 p.c2 n _).mono ?_; rintro e w' ⟨rfl, hw'⟩; have hx : Ext W w' := Ext.trans (And.left (by assumption)) hw'; have hbx : W.heap.size ≤ W.heap.size := Nat.le_refl _; rw [HK.out]))
        · go_wp2_with fail
          go_meet
          case rel => exact ⟨_, rfl, rfl, Blk.new _ _ _ _ rfl, hx.alloc _⟩
        · go_wp2_with fail
          go_meet
          case rel => exact ⟨_, rfl, rfl, (((D.set 0 _).set 1 _).set 2 _).set 3 _, (((hx.setCell hbx _).setCell hbx _).setCell hbx _).setCell hbx _⟩
      case rest =>
        obtain ⟨bb, rfl, rfl, C2, hx⟩ := hcut
        have C0' := C0.ext hx
        have C1' := C1.ext hx
        have hE4 := hE3.trans hx
        clear C0 C1 hE3 hx KS HS HK
        go_wp2_with fail
        go_loopw [13] (fun i wr => ∃ k : Nat, k ≤ 3 ∧ i = .int .i64 k ∧ Ext wc wr) (fun i _ => 3 - (intOf i).toNat)
        case atStart => exact ⟨0, Nat.zero_le _, rfl, Ext.refl _⟩
        case round =>
          obtain ⟨k, hk, rfl, hr⟩ := hrel
          have D0 := C0'.ext hr
          have D1 := C1'.ext hr
          have D2 := C2.ext hr
          have hE5 := hE4.trans hr
          by_cases hlt : k < 3
          · have c0 := D0.cell
            have c1 := D1.cell
            obtain rfl | rfl | rfl : k = 0 ∨ k = 1 ∨ k = 2 := by omega
            · go_wp2_with fail
              go_quiet (fail)
              go_wp2_with fail
              go_roundw
              case rel => exact ⟨1, by omega, by go_num, hr.drewN _⟩
              case measure => simp [intOf]
            · go_wp2_with fail
              go_quiet (fail)
              go_wp2_with fail
              go_roundw
              case rel => exact ⟨2, by omega, by go_num, hr.drewN _⟩
              case measure => simp [intOf]
            · go_wp2_with fail
              go_quiet (fail)
              go_wp2_with fail
              go_roundw
              case rel => exact ⟨3, by omega, by go_num, hr.drewN _⟩
              case measure => simp [intOf]
          · clear C0' C1' C2 hE4 hr
            go_wp2_with fail
            refine (pageBegun_any _).mono ?_
            rintro e w2 ⟨rfl, hw2⟩
            have F0 := D0.ext hw2
            have F1 := D1.ext hw2
            have F2 := D2.ext hw2
            have hE6 := hE5.trans hw2
            clear D0 D1 D2 hE5 hw2
            have c0 := F0.cell
            have c1 := F1.cell
            have c2 := F2.cell
            go_wp2_with fail
            refine (same_any bk p _).mono ?_
            rintro e w3 ⟨rfl, hw3⟩
            rw [HM.out]
            have G1 := F1.ext hw3
            have hE7 := hE6.trans hw3
            clear F0 F1 F2 hE6 hw3 c0 c1 c2
            have c1 := G1.cell
            go_wp2_with fail
            refine (check_any ⟨p.c0, p.c1, val, n⟩ _).mono ?_
            rintro e w4 ⟨rfl, hw4⟩
            rw [HR.out]
            have hE8 := hE7.trans hw4
            go_wp2_with fail
            go_ret
            exact ⟨rfl, hE8⟩

set_option maxRecDepth 100000 in
theorem pageTrue_lifted (os : Os) (started : os.Started) (H : Type) (enc : TypeId × Value → H) :
    ReturnsInHanded {} Try.checked os 4 .any (Rows.pageTrueSpec.pre6 enc Try.prog Try.f4 Rows.pageTrueRow.domain false) (Rows.pageTrueSpec.post enc Try.prog Try.f4 false true false false) := by
  refine returnsInHanded_of_change (C := Try.checked) own started (by kernel_rfl) Try.func4
    (ChangeSpec.witness6 (enc := enc) (C := Try.checked) false ⟨#[], #[.agg #[.int .i64 0, .int .i64 0, .int .i64 0, .int .i64 0], .int .i64 0, .int .i64 0, .int .i64 0], []⟩ 8 (by kernel_rfl) (by kernel_rfl) (by kernel_rfl) (by kernel_rfl)) ?_
  intro W base args ds gs before hval0 hW hcnd _
  have hval : ∀ (j : Nat) t v, Try.f4.params[j]? = some t → args[j]? = some v → Value.okWide Try.prog W .any base t v := hval0
  have hW' := hW
  obtain ⟨p, q, hA0, hV, rfl, hfz, hnd⟩ := hW
  have hA : DataW.TrodAll enc Try.prog W 0 (fun _ => true) true Try.f4.params.toList args.toList ds p := hA0
  rw [Try.params4] at hA hval
  obtain ⟨v0, vs0, d0, ds0, p0, q0, hargs, rfl, rfl, h0, r0⟩ := trodAll_cons hA
  obtain ⟨v1, vs1, d1, ds1, p1, q1, rfl, rfl, rfl, h1, r1⟩ := trodAll_cons r0
  obtain ⟨v2, vs2, d2, ds2, p2, q2, rfl, rfl, rfl, h2, r2⟩ := trodAll_cons r1
  obtain ⟨v3, vs3, d3, ds3, p3, q3, rfl, rfl, rfl, h3, r3⟩ := trodAll_cons r2
  obtain ⟨rfl, rfl, rfl⟩ := trodAll_nil r3
  obtain rfl : args = #[v0, v1, v2, v3] := by cases args; simp_all
  obtain ⟨rfl, rfl⟩ := trodVars_none hV
  obtain ⟨a0, rfl⟩ := open_pg (hval 0 24 v0 rfl rfl)
  obtain ⟨a1, rfl, _⟩ := open_num (hval 1 3 v1 rfl rfl)
  obtain ⟨a2, rfl, _⟩ := open_num (hval 2 3 v2 rfl rfl)
  obtain ⟨a3, rfl, _⟩ := open_num (hval 3 3 v3 rfl rfl)
  clear hA0 hval0
  refine (pageTrue_walk a0 a1 a2 a3 W).mono fun e W' ⟨he, bel⟩ => ?_
  subst he
  exact ⟨_, rfl, _, _, _, [], _, [], hW', trodAll_mk1 (shut_bool Try.underlying4 _),
    (trodAll_cons_mk (Below.trod laidOut (by kernel_rfl) (of_decide_eq_true (by kernel_rfl)) h0 bel (lt_of_trod h0))
    (trodAll_cons_mk (Below.trod laidOut (by kernel_rfl) (of_decide_eq_true (by kernel_rfl)) h1 bel (lt_of_trod h1))
    (trodAll_cons_mk (Below.trod laidOut (by kernel_rfl) (of_decide_eq_true (by kernel_rfl)) h2 bel (lt_of_trod h2))
    (trodAll_cons_mk (Below.trod laidOut (by kernel_rfl) (of_decide_eq_true (by kernel_rfl)) h3 bel (lt_of_trod h3)) trodAll_mk0)))), rfl, bel.frame _, fun h => by cases h⟩

theorem pageTrue_over : Rows.pageTrueRow.holds Try.pinned (OpenSpec.ofChange Rows.pageTrueSpec) :=
  OpenClaim.holds_of_wide 4 Try.f4 rfl rfl rfl rfl rfl rfl rfl ⟨rfl, rfl, rfl, rfl, rfl⟩ rfl rfl rfl rfl rfl (by kernel_rfl) Try.func4 (by kernel_rfl)
    (of_decide_eq_true (by kernel_rfl)) (by unfold Func.isWrapper; first | (rw [if_pos (by decide +kernel)]; kernel_rfl) | (rw [if_neg (by decide +kernel)]; exact ⟨rfl, rfl⟩))
    (fun os started H enc _ => pageTrue_lifted os started H enc)
end Go.Proofs.Ytbmojkcmjoechaa.B
namespace Go.Proofs.Ytbmojkcmjoechaa
theorem pageTrue_holds : Rows.PageTrueSaid := B.pageTrue_over
#print axioms pageTrue_holds
end Go.Proofs.Ytbmojkcmjoechaa
