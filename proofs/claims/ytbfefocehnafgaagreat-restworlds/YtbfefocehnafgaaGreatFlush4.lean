/- The contracts of the reference's SyncOf and FlushOf, put together; flushBegun answers true. -/
import Derived.Test.YtbfefocehnafgaaGreatFlush3A
import Derived.Test.YtbfefocehnafgaaGreatFlush3B
import Derived.Test.YtbfefocehnafgaaGreatFlush3C
import Derived.Test.YtbfefocehnafgaaGreatPlainA
import Derived.Test.YtbfefocehnafgaaGreatDeskB
namespace Go.Proofs.YtbfefocehnafgaaGreat.B
set_option maxRecDepth 100000
open Go.ChangeShapes Go.WideShapes Go.ChangeAt Go.RowKit

theorem syncOf_any (p q r : Pg) (a : Option Addr) (len cap : Nat) (l : List Rc) (safe n : Int) (w : World) (h : LogIn w a len cap l) :
    Calls Tryz.prog 36 #[wdVal p q r (.slice a len cap) safe, .int .i64 n] w fun e w' => Ext w w' ∧ WorkAns w.heap.size w' e p q r (errOf (worldErr p q r l safe) (syncErr l n)) l (maxI safe n) := by
  obtain rfl := h.recs.len
  have nope : ∀ (k y : Int), y = k → k ≠ 0 → Calls Tryz.prog 36 #[wdVal p q r (.slice a l.length cap) safe, .int .i64 n] w (fun e w' => e = .returned (.tuple #[wdVal noPg noPg noPg (.slice none 0 0) 0, .int .i64 k]) ∧ Ext w w') →
      Calls Tryz.prog 36 #[wdVal p q r (.slice a l.length cap) safe, .int .i64 n] w fun e w' => Ext w w' ∧ WorkAns w.heap.size w' e p q r y l (maxI safe n) := fun k y hy hk H => by
    subst hy
    exact H.mono fun e w' ⟨h1, h2⟩ => ⟨h2, Or.inr ⟨hk, h1⟩⟩
  by_cases hz : worldErr p q r l safe = 0
  · rw [errOf_good hz]
    have hl60 := (logErr_zero (worldErr_zero hz).1).1
    cases hn : wi n 0 (l.length : Nat)
    · exact nope 3 _ (by unfold syncErr; rw [out_one, hn]; rfl) (by decide) (syncOf_3 p q r a cap l safe n w h hz hn)
    · rw [show syncErr l n = 0 from by unfold syncErr; rw [out_one, hn]; rfl]
      by_cases hlt : safe < n
      · rw [maxI_lt hlt]
        exact (syncOf_0a p q r a cap l safe n w h hz hn hl60 hlt).mono fun e w' ⟨a', cap', h1, h2, h3, h4⟩ => ⟨h2, Or.inl ⟨rfl, a', cap', h1, h3, h4⟩⟩
      · rw [maxI_ge hlt]
        exact (syncOf_0b p q r a cap l safe n w h hz hn hl60 hlt).mono fun e w' ⟨a', cap', h1, h2, h3, h4⟩ => ⟨h2, Or.inl ⟨rfl, a', cap', h1, h3, h4⟩⟩
  · exact nope _ _ (errOf_ill hz) hz (syncOf_w p q r a cap l safe n w h hz)
theorem flushOf_any (p q r : Pg) (a : Option Addr) (len cap : Nat) (l : List Rc) (safe x : Int) (w : World) (h : LogIn w a len cap l) :
    Calls Tryz.prog 37 #[wdVal p q r (.slice a len cap) safe, .int .i64 x] w fun e w' => Ext w w' ∧ WorkAns w.heap.size w' e (layPg l x 0 p) (layPg l x 1 q) (layPg l x 2 r) (errOf (worldErr p q r l safe) (pageErr x)) l (laySafe l safe x) := by
  obtain rfl := h.recs.len
  have nope : ∀ (k y : Int), y = k → k ≠ 0 → Calls Tryz.prog 37 #[wdVal p q r (.slice a l.length cap) safe, .int .i64 x] w (fun e w' => e = .returned (.tuple #[wdVal noPg noPg noPg (.slice none 0 0) 0, .int .i64 k]) ∧ Ext w w') →
      Calls Tryz.prog 37 #[wdVal p q r (.slice a l.length cap) safe, .int .i64 x] w fun e w' => Ext w w' ∧ WorkAns w.heap.size w' e (layPg l x 0 p) (layPg l x 1 q) (layPg l x 2 r) y l (laySafe l safe x) := fun k y hy hk H => by
    subst hy
    exact H.mono fun e w' ⟨h1, h2⟩ => ⟨h2, Or.inr ⟨hk, h1⟩⟩
  by_cases hz : worldErr p q r l safe = 0
  · rw [errOf_good hz]
    obtain ⟨hl60, hR⟩ := logErr_zero (worldErr_zero hz).1
    have hfit := right_fits l hR
    cases hn : wi x 0 2
    · exact nope 3 _ (by unfold pageErr; rw [out_one, hn]; rfl) (by decide) (flushOf_3 p q r a cap l safe x w h hz hn)
    · rw [show pageErr x = 0 from by unfold pageErr; rw [out_one, hn]; rfl]
      have hx : x = 0 ∨ x = 1 ∨ x = 2 := by simp [wi] at hn; omega
      clear nope
      rcases hx with rfl | rfl | rfl
      · by_cases hlt : safe < (pgAt (pagesR l) 0).last
        · rw [show laySafe l safe 0 = (pgAt (pagesR l) 0).last from maxI_lt hlt]
          exact (flushOf_0a p q r a cap l safe _ w h hz hl60 hfit rfl hlt).mono fun e w' ⟨a', cap', h1, h2, h3, h4⟩ => ⟨h2, Or.inl ⟨rfl, a', cap', h1, h3, h4⟩⟩
        · rw [show laySafe l safe 0 = safe from maxI_ge hlt]
          exact (flushOf_0b p q r a cap l safe _ w h hz hl60 hfit rfl hlt).mono fun e w' ⟨a', cap', h1, h2, h3, h4⟩ => ⟨h2, Or.inl ⟨rfl, a', cap', h1, h3, h4⟩⟩
      · by_cases hlt : safe < (pgAt (pagesR l) 1).last
        · rw [show laySafe l safe 1 = (pgAt (pagesR l) 1).last from maxI_lt hlt]
          exact (flushOf_1a p q r a cap l safe _ w h hz hl60 hfit rfl hlt).mono fun e w' ⟨a', cap', h1, h2, h3, h4⟩ => ⟨h2, Or.inl ⟨rfl, a', cap', h1, h3, h4⟩⟩
        · rw [show laySafe l safe 1 = safe from maxI_ge hlt]
          exact (flushOf_1b p q r a cap l safe _ w h hz hl60 hfit rfl hlt).mono fun e w' ⟨a', cap', h1, h2, h3, h4⟩ => ⟨h2, Or.inl ⟨rfl, a', cap', h1, h3, h4⟩⟩
      · by_cases hlt : safe < (pgAt (pagesR l) 2).last
        · rw [show laySafe l safe 2 = (pgAt (pagesR l) 2).last from maxI_lt hlt]
          exact (flushOf_2a p q r a cap l safe _ w h hz hl60 hfit rfl hlt).mono fun e w' ⟨a', cap', h1, h2, h3, h4⟩ => ⟨h2, Or.inl ⟨rfl, a', cap', h1, h3, h4⟩⟩
        · rw [show laySafe l safe 2 = safe from maxI_ge hlt]
          exact (flushOf_2b p q r a cap l safe _ w h hz hl60 hfit rfl hlt).mono fun e w' ⟨a', cap', h1, h2, h3, h4⟩ => ⟨h2, Or.inl ⟨rfl, a', cap', h1, h3, h4⟩⟩
  · exact nope _ _ (errOf_ill hz) hz (flushOf_w p q r a cap l safe x w h hz)
theorem fl1 : errOf (worldErr zPg ⟨0, 6, 0, 2⟩ zPg someL 6) (syncErr someL 8) = 0 := by decide +kernel
theorem fl2 : errOf (worldErr zPg ⟨0, 6, 0, 2⟩ zPg someL 6) (pageErr 0) = 0 := by decide +kernel
theorem fl3 : errOf (worldErr zPg ⟨0, 6, 0, 2⟩ zPg someL 6) (syncErr someL 10) = 3 := by decide +kernel
theorem fl4 : errOf (worldErr zPg ⟨0, 6, 0, 2⟩ zPg someL 6) (pageErr 3) = 3 := by decide +kernel
theorem fl5 : errOf (worldErr zPg ⟨0, 6, 0, 2⟩ zPg someL 6) (syncErr someL 2) = 0 := by decide +kernel
theorem fl6 : layPg someL 0 0 zPg = ⟨8, 0, 0, 9⟩ := by kernel_rfl
theorem fl7 : layPg someL 0 1 ⟨0, 6, 0, 2⟩ = ⟨0, 6, 0, 2⟩ := by kernel_rfl
theorem fl8 : layPg someL 0 2 zPg = zPg := by kernel_rfl
theorem fl9 : laySafe someL 6 0 = 9 := by kernel_rfl
end Go.Proofs.YtbfefocehnafgaaGreat.B
