/- The contract of the reference's mended: all that is wanted is put, and all three pages are laid. -/
import Derived.Test.YtlpodahldpaniaaGreatNext1
import Derived.Test.YtlpodahldpaniaaGreatCrew9
import Derived.Test.YtlpodahldpaniaaGreatIs1
namespace Go.Proofs.YtlpodahldpaniaaGreat.B
set_option maxRecDepth 100000
open Go.ChangeShapes Go.WideShapes Go.ChangeAt Go.RowKit

theorem link_next {m : List Rc} (h : isNext m = true) : linkR m (nextAns m) = nextAns m := by
  unfold nextAns mendRec
  rw [h, if_pos rfl]
  split
  · exact linkR_roll _ _
  · rfl
/-- The mending that knows no bound. -/
abbrev noEnd : Nat := (9223372036854775807 : Int).toNat
theorem all_stop {c : List Rc} (hR : Right c) {k : Nat} {m : List Rc} (h : MendAt c noEnd k m) (hs : isNext m = false) : mendErr c = 0 ∧ needR c = k ∧ mendR c = m := by
  obtain ⟨h1, h2, h3⟩ := h.stop (Or.inl hs)
  obtain ⟨g1, g2, g3⟩ := all_half hR
  have e0 : mendErr c = 0 := by rw [← g1]; exact h1
  refine ⟨e0, ?_, by rw [← g3 e0]; exact h3⟩
  have : allNum c = needR c := by unfold allNum; rw [if_pos e0]
  rw [← this, ← g2]; exact h2
theorem all_under {c : List Rc} (hR : Right c) {k : Nat} {m : List Rc} (h : MendAt c noEnd k m) (hs : isNext m = true) : k < needR c ∧ k < noEnd := by
  have h1 := h.need
  have h2 : needR m ≠ 0 := fun e => by rw [need_zero.1 e] at hs; cases hs
  have h3 := needR_le c hR
  have h4 : noEnd = 9223372036854775807 := rfl
  constructor <;> omega
theorem all_many {c : List Rc} (hR : Right c) {k : Nat} {m : List Rc} (h : MendAt c noEnd k m) (hs : isNext m = true) (h60 : 60 ≤ m.length) : mendErr c = 2 := by
  obtain ⟨g1, _, _⟩ := all_half hR
  rw [← g1]; exact (h.many hs (all_under hR h hs).2 h60).1
theorem all_next {c : List Rc} (hR : Right c) {k : Nat} {m : List Rc} (h : MendAt c noEnd k m) (hs : isNext m = true) (h60 : m.length < 60) : MendAt c noEnd (k + 1) (m ++ [nextAns m]) := by
  have : nextAns m = mendRec m := by unfold nextAns; rw [hs, if_pos rfl]
  rw [this]; exact (h.next hs (all_under hR h hs).2 h60).1
set_option maxHeartbeats 16000000 in
theorem refMended_no (p q r : Pg) (a : Option Addr) (len cap : Nat) (l : List Rc) (safe : Int) (w : World) (h : LogIn w a len cap l) (hz : ¬ worldErr p q r l safe = 0) :
    Calls Tryz.prog 22 #[wdVal p q r (.slice a len cap) safe, .int .i64 (-1), .agg #[.bool true, .bool true, .bool true]] w fun e w' => Ext w w' ∧ e = .returned (.tuple #[wdVal noPg noPg noPg (.slice none 0 0) 0, .int .i64 0, .int .i64 (worldErr p q r l safe)]) := by
  have E0 := (((Ext.refl w).alloc (.cells (wdCells p q r (.slice a len cap) safe) 28)).alloc (.cells #[.bool true, .bool true, .bool true] 57)).alloc (.cells (wdCells noPg noPg noPg (.slice none 0 0) 0) 28)
  have B0 := ((Blk.new w w.heap.size (wdCells p q r (.slice a len cap) safe) 28 rfl).alloc (.cells #[.bool true, .bool true, .bool true] 57)).alloc (.cells (wdCells noPg noPg noPg (.slice none 0 0) 0) 28)
  have N0 := Blk.new ((w.alloc (.cells (wdCells p q r (.slice a len cap) safe) 28)).alloc (.cells #[.bool true, .bool true, .bool true] 57)) (w.heap.size + 1 + 1) (wdCells noPg noPg noPg (.slice none 0 0) 0) 28 (by simp)
  have HC := fun W (e : Ext w W) => (crashOf_any p q r a len cap l safe W (h.ext e))
  generalize worldErr p q r l safe = we at *
  have hwe : (we != 0) = true := by simpa using hz
  go_enter Tryz.func22, Tryz.ntmps22
  have b0 := B0.cell
  go_wp2_with fail
  refine (HC _ E0).mono ?_
  rintro e w2 ⟨hw, ⟨h0, _⟩ | ⟨_, rfl⟩⟩
  · exact absurd h0 hz
  have o2 := hw.alloc (.cells (wdCells noPg noPg noPg (.slice none 0 0) 0) 28)
  have E2 := E0.trans o2
  have N2 := N0.ext o2
  clear hw o2 b0 B0 E0 N0 HC
  have n_ := N2.cell
  have f_ := N2.fr
  have E9 := put14_ext E2 (w.heap.size + 1 + 1) (by omega) (.int .i64 0) (.int .i64 0) (.int .i64 0) (.int .i64 0) (.int .i64 0) (.int .i64 0) (.int .i64 0) (.int .i64 0) (.int .i64 0) (.int .i64 0) (.int .i64 0) (.int .i64 0) (.slice none 0 0) (.int .i64 0)
  go_wp2_with fail
  refine bodyPost_ret (v := .tuple #[.agg (wdCells noPg noPg noPg (.slice none 0 0) 0), .int .i64 0, .int .i64 we]) (by simp [results, Tryz.results22, go_sem, n_]) rfl ⟨E9, rfl⟩
end Go.Proofs.YtlpodahldpaniaaGreat.B
