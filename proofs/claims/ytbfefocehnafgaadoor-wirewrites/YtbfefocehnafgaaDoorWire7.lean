/- Bytes read: the contract of pick. -/
import Derived.Test.YtbfefocehnafgaaDoorWire6
namespace Go.Proofs.YtbfefocehnafgaaDoor.B
set_option maxRecDepth 100000
open Go.ChangeShapes Go.WideShapes Go.ChangeAt Go.RowKit

abbrev zW : Array Value := wdCells noPg noPg noPg (.slice none 0 0) 0
/-- The world's cells, once so many bytes are read. -/
def cellsN (s : List UInt8) (n : Nat) : Array Value := setN zW 0 (s.take n)
theorem shape_set {P Q R : Pg} {lv : Value} {S : Int} (o : Nat) (h : o < 12 ∨ o = 13) (x : Int) : ∃ P' Q' R' S', (wdCells P Q R lv S).setIfInBounds o (.int .i64 x) = wdCells P' Q' R' lv S' := by
  have hc : o = 0 ∨ o = 1 ∨ o = 2 ∨ o = 3 ∨ o = 4 ∨ o = 5 ∨ o = 6 ∨ o = 7 ∨ o = 8 ∨ o = 9 ∨ o = 10 ∨ o = 11 ∨ o = 13 := by omega
  rcases hc with rfl | rfl | rfl | rfl | rfl | rfl | rfl | rfl | rfl | rfl | rfl | rfl | rfl
  · exact ⟨⟨x, P.c1, P.c2, P.last⟩, Q, R, S, rfl⟩
  · exact ⟨⟨P.c0, x, P.c2, P.last⟩, Q, R, S, rfl⟩
  · exact ⟨⟨P.c0, P.c1, x, P.last⟩, Q, R, S, rfl⟩
  · exact ⟨⟨P.c0, P.c1, P.c2, x⟩, Q, R, S, rfl⟩
  · exact ⟨P, ⟨x, Q.c1, Q.c2, Q.last⟩, R, S, rfl⟩
  · exact ⟨P, ⟨Q.c0, x, Q.c2, Q.last⟩, R, S, rfl⟩
  · exact ⟨P, ⟨Q.c0, Q.c1, x, Q.last⟩, R, S, rfl⟩
  · exact ⟨P, ⟨Q.c0, Q.c1, Q.c2, x⟩, R, S, rfl⟩
  · exact ⟨P, Q, ⟨x, R.c1, R.c2, R.last⟩, S, rfl⟩
  · exact ⟨P, Q, ⟨R.c0, x, R.c2, R.last⟩, S, rfl⟩
  · exact ⟨P, Q, ⟨R.c0, R.c1, x, R.last⟩, S, rfl⟩
  · exact ⟨P, Q, ⟨R.c0, R.c1, R.c2, x⟩, S, rfl⟩
  · exact ⟨P, Q, R, x, rfl⟩
theorem shape_n : ∀ (l : List UInt8) (o : Nat) (P Q R : Pg) (lv : Value) (S : Int), o + l.length ≤ 12 → ∃ P' Q' R' S', setN (wdCells P Q R lv S) o l = wdCells P' Q' R' lv S' := by
  intro l
  induction l with
  | nil => intro o P Q R lv S _; exact ⟨P, Q, R, S, rfl⟩
  | cons x xs ih =>
    intro o P Q R lv S h
    rw [List.length_cons] at h
    obtain ⟨P', Q', R', S', e⟩ := shape_set (P := P) (Q := Q) (R := R) (lv := lv) (S := S) o (Or.inl (by omega)) (x.toNat : Int)
    show ∃ P' Q' R' S', setN ((wdCells P Q R lv S).setIfInBounds o (.int .i64 (x.toNat : Int))) (o + 1) xs = _
    rw [e]
    exact ih (o + 1) P' Q' R' lv S' (by omega)
theorem cellsN_shape (s : List UInt8) (n : Nat) (h : n ≤ 12) : ∃ P Q R S, cellsN s n = wdCells P Q R (.slice none 0 0) S := shape_n _ 0 _ _ _ _ _ (by rw [List.length_take]; omega)
theorem cellsN_next (s : List UInt8) (n : Nat) (h : n < s.length) : cellsN s (n + 1) = setN (cellsN s n) (0 + n) ((s.drop n).take 1) := by
  unfold cellsN
  have e : (s.drop n).take 1 = [s[n]] := by rw [List.drop_eq_getElem_cons h]; rfl
  rw [List.take_succ_eq_append_getElem h, setN_app, List.length_take, Nat.min_eq_left (by omega), e]
theorem cellsN_at (s : List UInt8) (n : Nat) (hn : n < 12) (h : n ≤ s.length) : (cellsN s n)[0 + n]? = some (.int .i64 0) := by
  unfold cellsN
  rw [setN_at s zW 0 n h]
  have hc : n = 0 ∨ n = 1 ∨ n = 2 ∨ n = 3 ∨ n = 4 ∨ n = 5 ∨ n = 6 ∨ n = 7 ∨ n = 8 ∨ n = 9 ∨ n = 10 ∨ n = 11 := by omega
  rcases hc with rfl | rfl | rfl | rfl | rfl | rfl | rfl | rfl | rfl | rfl | rfl | rfl <;> rfl
theorem head_list (s : List UInt8) (h : 12 ≤ s.length) : ∃ b0 b1 b2 b3 b4 b5 b6 b7 b8 b9 b10 b11 rest, s = b0 :: b1 :: b2 :: b3 :: b4 :: b5 :: b6 :: b7 :: b8 :: b9 :: b10 :: b11 :: rest := by
  match s, h with
  | b0 :: b1 :: b2 :: b3 :: b4 :: b5 :: b6 :: b7 :: b8 :: b9 :: b10 :: b11 :: rest, _ => exact ⟨b0, b1, b2, b3, b4, b5, b6, b7, b8, b9, b10, b11, rest, rfl⟩
theorem cells12 (b0 b1 b2 b3 b4 b5 b6 b7 b8 b9 b10 b11 : UInt8) (rest : List UInt8) : cellsN (b0 :: b1 :: b2 :: b3 :: b4 :: b5 :: b6 :: b7 :: b8 :: b9 :: b10 :: b11 :: rest) 12 = wdCells ⟨b0.toNat, b1.toNat, b2.toNat, b3.toNat⟩ ⟨b4.toNat, b5.toNat, b6.toNat, b7.toNat⟩ ⟨b8.toNat, b9.toNat, b10.toNat, b11.toNat⟩ (.slice none 0 0) 0 := by
  unfold cellsN
  rw [show (b0 :: b1 :: b2 :: b3 :: b4 :: b5 :: b6 :: b7 :: b8 :: b9 :: b10 :: b11 :: rest).take 12 = [b0, b1, b2, b3, b4, b5, b6, b7, b8, b9, b10, b11] from rfl]
  simp [setN]
theorem head_cells (s : List UInt8) (h : 13 ≤ s.length) : setN (cellsN s 12) 13 ((s.drop 12).take 1) = wdCells (rdWd s).p (rdWd s).q (rdWd s).r (.slice none 0 0) (rdWd s).safe := by
  obtain ⟨b0, b1, b2, b3, b4, b5, b6, b7, b8, b9, b10, b11, rest, rfl⟩ := head_list s (by omega)
  cases rest with
  | nil => simp at h
  | cons y rest =>
    rw [cells12, show ((b0 :: b1 :: b2 :: b3 :: b4 :: b5 :: b6 :: b7 :: b8 :: b9 :: b10 :: b11 :: y :: rest).drop 12).take 1 = [y] from rfl]
    simp [setN, rdWd, byteAt]
theorem cells12_13 (s : List UInt8) (h : 12 ≤ s.length) : (cellsN s 12)[13]? = some (.int .i64 0) := by
  obtain ⟨b0, b1, b2, b3, b4, b5, b6, b7, b8, b9, b10, b11, rest, rfl⟩ := head_list s h
  rw [cells12]
  rfl
/-- What pick answers. -/
def PickAns (base : Nat) (s : List UInt8) (w' : World) (e : Ending) : Prop :=
  (wholeWd s = true ∧ ∃ a cap, e = .returned (.tuple #[wdVal (rdWd s).p (rdWd s).q (rdWd s).r (.slice a (rdWd s).l.length cap) (rdWd s).safe, .bool true]) ∧ LogIn w' a (rdWd s).l.length cap (rdWd s).l ∧ ∀ ad, a = some ad → base ≤ ad.block) ∨
    (wholeWd s = false ∧ ∃ P Q R a n cap S, e = .returned (.tuple #[wdVal P Q R (.slice a n cap) S, .bool false]))
theorem early_pos {w : World} (h : Early w) : 0 < w.heap.size := by obtain ⟨t, v, h⟩ := h; exact cell_lt h
/-- What '[]byte(s)' lays is read. -/
theorem rd_new (w : World) (s : List UInt8) (cap : Nat) (f : Nat × Nat) (hc : s.length ≤ cap) (hm : cap ≤ maxLen) :
    Rd (w.heap.size + 1) s ((w.alloc (.cells (bytesRow ⟨s.toArray⟩ cap) 5 f)).alloc (.cells #[.slice (some ⟨w.heap.size, 0, none⟩) s.length cap] 57)) := by
  have e1 : (w.alloc (.cells (bytesRow ⟨s.toArray⟩ cap) 5 f)).heap[w.heap.size]? = some (.cells (bytesRow ⟨s.toArray⟩ cap) 5 f) := by unfold World.alloc; simp
  have e2 := ((Ext.refl (w.alloc (.cells (bytesRow ⟨s.toArray⟩ cap) 5 f))).alloc (.cells #[.slice (some ⟨w.heap.size, 0, none⟩) s.length cap] 57)).block w.heap.size (by simp)
  refine ⟨w.heap.size, 0, cap, Blk.new _ _ _ _ (by simp), hc, hm, ⟨_, _, e2.trans e1⟩, fun i hi => ?_⟩
  simp only [World.cell?, e2, e1, Nat.zero_add]
  have := bytesRow_at ⟨s.toArray⟩ cap i (by simpa using hi)
  simpa using this
end Go.Proofs.YtbfefocehnafgaaDoor.B
