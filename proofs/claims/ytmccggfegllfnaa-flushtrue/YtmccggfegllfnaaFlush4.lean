/- The contracts of the reference's SyncOf and FlushOf, put together; flushBegun answers true. -/
import Derived.Test.YtmccggfegllfnaaFlush3A
import Derived.Test.YtmccggfegllfnaaFlush3B
import Derived.Test.YtmccggfegllfnaaFlush3C
import Derived.Test.YtmccggfegllfnaaRoll0
import Derived.Test.YtmccggfegllfnaaDesk4
namespace Go.Proofs.Ytmccggfegllfnaa.B
set_option maxRecDepth 100000
open Go.ChangeShapes Go.WideShapes Go.ChangeAt Go.RowKit

theorem syncOf_any (p q r : Pg) (a : Option Addr) (len cap : Nat) (l : List Rc) (safe n : Int) (w : World) (h : LogIn w a len cap l) :
    Calls Try.prog 26 #[wdVal p q r (.slice a len cap) safe, .int .i64 n] w fun e w' => Ext w w' ∧ WorkAns w.heap.size w' e p q r (errOf (worldErr p q r l safe) (syncErr l n)) l (maxI safe n) := by
  obtain rfl := h.recs.len
  have nope : ∀ (k y : Int), y = k → k ≠ 0 → Calls Try.prog 26 #[wdVal p q r (.slice a l.length cap) safe, .int .i64 n] w (fun e w' => e = .returned (.tuple #[wdVal noPg noPg noPg (.slice none 0 0) 0, .int .i64 k]) ∧ Ext w w') →
      Calls Try.prog 26 #[wdVal p q r (.slice a l.length cap) safe, .int .i64 n] w fun e w' => Ext w w' ∧ WorkAns w.heap.size w' e p q r y l (maxI safe n) := fun k y hy hk H => by
    subst hy
    exact H.mono fun e w' ⟨h1, h2⟩ => ⟨h2, Or.inr ⟨hk, h1⟩⟩
  by_cases hz : worldErr p q r l safe = 0
  · rw [errOf_good hz]
    have hl60 := (logErr_zero (worldErr_zero hz).1).1
    cases hn : wi n 0 (l.length : Nat)
    · exact nope 3 _ (by unfold syncErr; rw [out_one, hn]; rfl) (by decide) (syncOf_3 p q r a cap l safe n w h hz hn)
    · rw [show syncErr l n = 0 from by unfold syncErr; rw [out_one, hn]; rfl]
      by_cases hlt : safe < n
      · rw [maxI_lt hlt]
        exact (syncOf_0a p q r a cap l safe n w h hz hn hl60 hlt).mono fun e w' ⟨a', cap', h1, h2, h3, h4⟩ => ⟨h2, Or.inl ⟨rfl, a', cap', h1, h3, h4⟩⟩
      · rw [maxI_ge hlt]
        exact (syncOf_0b p q r a cap l safe n w h hz hn hl60 hlt).mono fun e w' ⟨a', cap', h1, h2, h3, h4⟩ => ⟨h2, Or.inl ⟨rfl, a', cap', h1, h3, h4⟩⟩
  · exact nope _ _ (errOf_ill hz) hz (syncOf_w p q r a cap l safe n w h hz)
theorem flushOf_any (p q r : Pg) (a : Option Addr) (len cap : Nat) (l : List Rc) (safe x : Int) (w : World) (h : LogIn w a len cap l) :
    Calls Try.prog 27 #[wdVal p q r (.slice a len cap) safe, .int .i64 x] w fun e w' => Ext w w' ∧ WorkAns w.heap.size w' e (layPg l x 0 p) (layPg l x 1 q) (layPg l x 2 r) (errOf (worldErr p q r l safe) (pageErr x)) l (laySafe l safe x) := by
  obtain rfl := h.recs.len
  have nope : ∀ (k y : Int), y = k → k ≠ 0 → Calls Try.prog 27 #[wdVal p q r (.slice a l.length cap) safe, .int .i64 x] w (fun e w' => e = .returned (.tuple #[wdVal noPg noPg noPg (.slice none 0 0) 0, .int .i64 k]) ∧ Ext w w') →
      Calls Try.prog 27 #[wdVal p q r (.slice a l.length cap) safe, .int .i64 x] w fun e w' => Ext w w' ∧ WorkAns w.heap.size w' e (layPg l x 0 p) (layPg l x 1 q) (layPg l x 2 r) y l (laySafe l safe x) := fun k y hy hk H => by
    subst hy
    exact H.mono fun e w' ⟨h1, h2⟩ => ⟨h2, Or.inr ⟨hk, h1⟩⟩
  by_cases hz : worldErr p q r l safe = 0
  · rw [errOf_good hz]
    obtain ⟨hl60, hR⟩ := logErr_zero (worldErr_zero hz).1
    have hfit := right_fits l hR
    cases hn : wi x 0 2
    · exact nope 3 _ (by unfold pageErr; rw [out_one, hn]; rfl) (by decide) (flushOf_3 p q r a cap l safe x w h hz hn)
    · rw [show pageErr x = 0 from by unfold pageErr; rw [out_one, hn]; rfl]
      have hx : x = 0 ∨ x = 1 ∨ x = 2 := by simp [wi] at hn; omega
      clear nope
      rcases hx with rfl | rfl | rfl
      · by_cases hlt : safe < (pgAt (pagesR l) 0).last
        · rw [show laySafe l safe 0 = (pgAt (pagesR l) 0).last from maxI_lt hlt]
          exact (flushOf_0a p q r a cap l safe _ w h hz hl60 hfit rfl hlt).mono fun e w' ⟨a', cap', h1, h2, h3, h4⟩ => ⟨h2, Or.inl ⟨rfl, a', cap', h1, h3, h4⟩⟩
        · rw [show laySafe l safe 0 = safe from maxI_ge hlt]
          exact (flushOf_0b p q r a cap l safe _ w h hz hl60 hfit rfl hlt).mono fun e w' ⟨a', cap', h1, h2, h3, h4⟩ => ⟨h2, Or.inl ⟨rfl, a', cap', h1, h3, h4⟩⟩
      · by_cases hlt : safe < (pgAt (pagesR l) 1).last
        · rw [show laySafe l safe 1 = (pgAt (pagesR l) 1).last from maxI_lt hlt]
          exact (flushOf_1a p q r a cap l safe _ w h hz hl60 hfit rfl hlt).mono fun e w' ⟨a', cap', h1, h2, h3, h4⟩ => ⟨h2, Or.inl ⟨rfl, a', cap', h1, h3, h4⟩⟩
        · rw [show laySafe l safe 1 = safe from maxI_ge hlt]
          exact (flushOf_1b p q r a cap l safe _ w h hz hl60 hfit rfl hlt).mono fun e w' ⟨a', cap', h1, h2, h3, h4⟩ => ⟨h2, Or.inl ⟨rfl, a', cap', h1, h3, h4⟩⟩
      · by_cases hlt : safe < (pgAt (pagesR l) 2).last
        · rw [show laySafe l safe 2 = (pgAt (pagesR l) 2).last from maxI_lt hlt]
          exact (flushOf_2a p q r a cap l safe _ w h hz hl60 hfit rfl hlt).mono fun e w' ⟨a', cap', h1, h2, h3, h4⟩ => ⟨h2, Or.inl ⟨rfl, a', cap', h1, h3, h4⟩⟩
        · rw [show laySafe l safe 2 = safe from maxI_ge hlt]
          exact (flushOf_2b p q r a cap l safe _ w h hz hl60 hfit rfl hlt).mono fun e w' ⟨a', cap', h1, h2, h3, h4⟩ => ⟨h2, Or.inl ⟨rfl, a', cap', h1, h3, h4⟩⟩
  · exact nope _ _ (errOf_ill hz) hz (flushOf_w p q r a cap l safe x w h hz)
theorem fl1 : errOf (worldErr zPg ⟨0, 6, 0, 2⟩ zPg someL 6) (syncErr someL 8) = 0 := by decide +kernel
theorem fl2 : errOf (worldErr zPg ⟨0, 6, 0, 2⟩ zPg someL 6) (pageErr 0) = 0 := by decide +kernel
theorem fl3 : errOf (worldErr zPg ⟨0, 6, 0, 2⟩ zPg someL 6) (syncErr someL 10) = 3 := by decide +kernel
theorem fl4 : errOf (worldErr zPg ⟨0, 6, 0, 2⟩ zPg someL 6) (pageErr 3) = 3 := by decide +kernel
theorem fl5 : errOf (worldErr zPg ⟨0, 6, 0, 2⟩ zPg someL 6) (syncErr someL 2) = 0 := by decide +kernel
theorem fl6 : layPg someL 0 0 zPg = ⟨8, 0, 0, 9⟩ := by kernel_rfl
theorem fl7 : layPg someL 0 1 ⟨0, 6, 0, 2⟩ = ⟨0, 6, 0, 2⟩ := by kernel_rfl
theorem fl8 : layPg someL 0 2 zPg = zPg := by kernel_rfl
theorem fl9 : laySafe someL 6 0 = 9 := by kernel_rfl
set_option maxHeartbeats 8000000 in
theorem flushBegun_any (w : World) :
    Calls Try.prog 28 #[] w fun e w' => e = .returned (.bool true) ∧ Ext w w' := by
  go_enter Try.func28, Try.ntmps28
  have E0 := Ext.refl w
  go_wp2_with fail
  refine (lab_any _).mono ?_
  rintro e u1 ⟨b1, rfl, hw, hb1, B1⟩
  have E1a := E0.trans hw
  clear hw E0 hb1
  go_wp2_with fail
  refine (flushSync_any zPg ⟨0, 6, 0, 2⟩ zPg (some ⟨b1, 0, none⟩) 9 9 someL 6 8 _ ⟨recs_blk B1, by decide, by decide, by simp⟩).mono ?_
  rintro e v1 ⟨hw, ⟨_, a1, cap1, rfl, _, _⟩ | ⟨hx, _⟩⟩
  rotate_left
  · exact absurd fl1 hx
  rw [show someL.length = 9 from rfl]
  rw [show maxI 6 8 = 8 from rfl]
  have hx1 := hw.alloc (.cells (wdCells zPg ⟨0, 6, 0, 2⟩ zPg (.slice a1 9 cap1) 8) 28)
  have E1 := E1a.trans hx1
  have X := Blk.new v1 v1.heap.size (wdCells zPg ⟨0, 6, 0, 2⟩ zPg (.slice a1 9 cap1) 8) 28 rfl
  clear hw hx1 E1a B1
  go_wp2_with fail
  refine (lab_any _).mono ?_
  rintro e u2 ⟨b2, rfl, hw, hb2, B2⟩
  have E2a := E1.trans hw
  replace X := X.ext hw
  clear hw E1 hb2
  go_wp2_with fail
  refine (flushPage_any zPg ⟨0, 6, 0, 2⟩ zPg (some ⟨b2, 0, none⟩) 9 9 someL 6 0 _ ⟨recs_blk B2, by decide, by decide, by simp⟩).mono ?_
  rintro e v2 ⟨hw, ⟨_, a2, cap2, rfl, _, _⟩ | ⟨hx, _⟩⟩
  rotate_left
  · exact absurd fl2 hx
  rw [show someL.length = 9 from rfl]
  rw [fl6, fl7, fl8, fl9]
  have hx2 := hw.alloc (.cells (wdCells ⟨8, 0, 0, 9⟩ ⟨0, 6, 0, 2⟩ zPg (.slice a2 9 cap2) 9) 28)
  have E2 := E2a.trans hx2
  replace X := X.ext hx2
  have Y := Blk.new v2 v2.heap.size (wdCells ⟨8, 0, 0, 9⟩ ⟨0, 6, 0, 2⟩ zPg (.slice a2 9 cap2) 9) 28 rfl
  clear hw hx2 E2a B2
  go_wp2_with fail
  refine (lab_any _).mono ?_
  rintro e u3 ⟨b3, rfl, hw, hb3, B3⟩
  have E3a := E2.trans hw
  replace X := X.ext hw
  replace Y := Y.ext hw
  clear hw E2 hb3
  go_wp2_with fail
  refine (flushSync_any zPg ⟨0, 6, 0, 2⟩ zPg (some ⟨b3, 0, none⟩) 9 9 someL 6 10 _ ⟨recs_blk B3, by decide, by decide, by simp⟩).mono ?_
  rintro e v3 ⟨hw, ⟨hx, _⟩ | ⟨_, rfl⟩⟩
  · rw [fl3] at hx; exact absurd hx (by decide)
  rw [fl3]
  have hx3 := hw.alloc (.cells (wdCells noPg noPg noPg (.slice none 0 0) 0) 28)
  have E3 := E3a.trans hx3
  replace X := X.ext hx3
  replace Y := Y.ext hx3
  clear hw hx3 E3a B3
  go_wp2_with fail
  refine (lab_any _).mono ?_
  rintro e u4 ⟨b4, rfl, hw, hb4, B4⟩
  have E4a := E3.trans hw
  replace X := X.ext hw
  replace Y := Y.ext hw
  clear hw E3 hb4
  go_wp2_with fail
  refine (flushPage_any zPg ⟨0, 6, 0, 2⟩ zPg (some ⟨b4, 0, none⟩) 9 9 someL 6 3 _ ⟨recs_blk B4, by decide, by decide, by simp⟩).mono ?_
  rintro e v4 ⟨hw, ⟨hx, _⟩ | ⟨_, rfl⟩⟩
  · rw [fl4] at hx; exact absurd hx (by decide)
  rw [fl4]
  have hx4 := hw.alloc (.cells (wdCells noPg noPg noPg (.slice none 0 0) 0) 28)
  have E4 := E4a.trans hx4
  replace X := X.ext hx4
  replace Y := Y.ext hx4
  clear hw hx4 E4a B4
  go_wp2_with fail
  refine (lab_any _).mono ?_
  rintro e u5 ⟨b5, rfl, hw, hb5, B5⟩
  have E5a := E4.trans hw
  replace X := X.ext hw
  replace Y := Y.ext hw
  clear hw E4 hb5
  go_wp2_with fail
  refine (flushSync_any zPg ⟨0, 6, 0, 2⟩ zPg (some ⟨b5, 0, none⟩) 9 9 someL 6 2 _ ⟨recs_blk B5, by decide, by decide, by simp⟩).mono ?_
  rintro e v5 ⟨hw, ⟨_, a5, cap5, rfl, _, _⟩ | ⟨hx, _⟩⟩
  rotate_left
  · exact absurd fl5 hx
  rw [show someL.length = 9 from rfl]
  rw [show maxI 6 2 = 6 from rfl]
  have hx5 := hw.alloc (.cells (wdCells zPg ⟨0, 6, 0, 2⟩ zPg (.slice a5 9 cap5) 6) 28)
  have E5 := E5a.trans hx5
  replace X := X.ext hx5
  replace Y := Y.ext hx5
  have Z := Blk.new v5 v5.heap.size (wdCells zPg ⟨0, 6, 0, 2⟩ zPg (.slice a5 9 cap5) 6) 28 rfl
  clear hw hx5 E5a B5
  have xc := X.cell
  have yc := Y.cell
  have zc := Z.cell
  go_wp2_with fail
  go_ret
  exact ⟨rfl, E5⟩
end Go.Proofs.Ytmccggfegllfnaa.B
