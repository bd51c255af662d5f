/- The reference's WorldFrom: the head. -/
import Derived.Test.YtbfefocehnafgaaDoorWireC
namespace Go.Proofs.YtbfefocehnafgaaDoor.B
set_option maxRecDepth 100000
open Go.ChangeShapes Go.WideShapes Go.ChangeAt Go.RowKit

/-- The world's cells, once so many bytes are heard: what is not there is 0. -/
def headN (s : List UInt8) : Nat → Array Value
  | 0 => zW
  | n + 1 => (headN s n).setIfInBounds n (.int .i64 (byteAt s n))
theorem headN_size (s : List UInt8) (n : Nat) : (headN s n).size = 14 := by
  induction n with
  | zero => rfl
  | succ n ih => show ((headN s n).setIfInBounds n _).size = 14; rw [Array.size_setIfInBounds, ih]
theorem headN_rest (s : List UInt8) (n : Nat) : ∀ k, n ≤ k → (headN s n)[k]? = zW[k]? := by
  induction n with
  | zero => intro k _; rfl
  | succ n ih =>
    intro k hk
    show ((headN s n).setIfInBounds n _)[k]? = _
    rw [Array.getElem?_setIfInBounds_ne (by omega)]
    exact ih k (by omega)
theorem headN_at (s : List UInt8) (n : Nat) (h : n < 12) : (headN s n)[n]? = some (.int .i64 0) := by
  rw [headN_rest s n n (Nat.le_refl _)]
  have hc : n = 0 ∨ n = 1 ∨ n = 2 ∨ n = 3 ∨ n = 4 ∨ n = 5 ∨ n = 6 ∨ n = 7 ∨ n = 8 ∨ n = 9 ∨ n = 10 ∨ n = 11 := by omega
  rcases hc with rfl | rfl | rfl | rfl | rfl | rfl | rfl | rfl | rfl | rfl | rfl | rfl <;> rfl
theorem headN_get (s : List UInt8) (n : Nat) (hn : n ≤ 14) : ∀ k, k < n → (headN s n)[k]? = some (.int .i64 (byteAt s k)) := by
  induction n with
  | zero => intro k hk; omega
  | succ n ih =>
    intro k hk
    show ((headN s n).setIfInBounds n _)[k]? = _
    by_cases e : n = k
    · subst e
      rw [Array.getElem?_setIfInBounds_self_of_lt (by rw [headN_size]; omega)]
    · rw [Array.getElem?_setIfInBounds_ne e]
      exact ih (by omega) k (by omega)
theorem headN_12 (s : List UInt8) : headN s 12 = wdCells (rdWd s).p (rdWd s).q (rdWd s).r (.slice none 0 0) 0 := by
  apply Array.ext_getElem?
  intro k
  by_cases h : k < 12
  · rw [headN_get s 12 (by omega) k h]
    have hc : k = 0 ∨ k = 1 ∨ k = 2 ∨ k = 3 ∨ k = 4 ∨ k = 5 ∨ k = 6 ∨ k = 7 ∨ k = 8 ∨ k = 9 ∨ k = 10 ∨ k = 11 := by omega
    rcases hc with rfl | rfl | rfl | rfl | rfl | rfl | rfl | rfl | rfl | rfl | rfl | rfl <;> rfl
  · rw [headN_rest s 12 k (by omega)]
    by_cases h2 : k < 14
    · have hc : k = 12 ∨ k = 13 := by omega
      rcases hc with rfl | rfl <;> rfl
    · rw [Array.getElem?_eq_none (by show 14 ≤ k; omega), Array.getElem?_eq_none (by show 14 ≤ k; omega)]
theorem byteAt_drop (s : List UInt8) (n : Nat) : byteAt (s.drop n) 0 = byteAt s n := by
  unfold byteAt
  simp [List.getD_eq_getElem?_getD]
theorem drop_one (s : List UInt8) (n : Nat) : (s.drop n).drop 1 = s.drop (n + 1) := by rw [List.drop_drop]
theorem Blk.lookHead {w : World} {b n : Nat} {s : List UInt8} {t : TypeId} (h : Blk w b (headN s n) t) (hn : n < 12) : w.cell? ⟨b, n, none⟩ = some (.int .i64 0) := by rw [h.cell, headN_at s n hn]
theorem belowGr {n : Nat} {a b c : World} {row : Option Nat} (h : Below n a b) (hn : n ≤ b.heap.size) (k : Gr row b c) (hr : ∀ r, row = some r → n ≤ r) : Below n a c :=
  ⟨k.os.trans h.os, k.tape.trans h.tape, k.output.trans h.output, Nat.le_trans h.size k.size, fun i hi => (k.block i (by omega) (fun e => by have := hr i e.symm; omega)).trans (h.block i hi)⟩
/-- What stays while a record is heard: whatever lay there, the box of the answer, the world's box, the row of the records that were heard. -/
structure FrD (w : World) (b2 : Nat) (P Q R : Pg) (S : Int) (lv : Value) (done : List Rc) (wq : World) : Prop where
  low : Below b2 w wq
  res : Blk wq b2 zW 28
  wd : Blk wq (b2 + 1 + 1) (wdCells P Q R lv S) 28
  own : wq.ownsRow b2 46 8 lv done.length (flat done)
/-- A row of records is no block of another kind. -/
theorem own_notR {w : World} {base n k : Nat} {v : Value} {xs : List Value} {c : Array Value} {t : TypeId} (h : w.ownsRow base 46 8 v n xs) (hk : Blk w k c t) (ht : (t == 46) = false) : v.ownBlock ≠ some k := fun e => by
  rcases h.2 with ⟨rfl, _⟩ | ⟨g, cap, cur, rfl, _, hb, _⟩
  · simp [Value.ownBlock] at e
  · simp [Value.ownBlock] at e
    subst e
    unfold Blk at hk
    rw [hk] at hb
    injection hb with hb
    injection hb with _ hb _
    rw [hb] at ht
    simp at ht
theorem FrD.gr {w : World} {b2 : Nat} {P Q R : Pg} {S : Int} {lv : Value} {done : List Rc} {wq w' : World} {c : Array Value} (h : FrD w b2 P Q R S lv done wq) (E : Blk wq (b2 + 1) c 52) (g : Gr (some (b2 + 1)) wq w') : FrD w b2 P Q R S lv done w' :=
  ⟨belowGr h.low (by have := h.res.lt; omega) g (fun r e => by injection e with e; omega), h.res.gr g (by simp), h.wd.gr g (by simp), own_gr h.own g (fun k e e2 => own_notR h.own E (by decide) (by rw [e, e2]))⟩
theorem FrD.ext {w : World} {b2 : Nat} {P Q R : Pg} {S : Int} {lv : Value} {done : List Rc} {wq w' : World} (h : FrD w b2 P Q R S lv done wq) (e : Ext wq w') : FrD w b2 P Q R S lv done w' :=
  ⟨belowGr h.low (by have := h.res.lt; omega) (Gr.of_ext (row := none) e) (fun r e => by cases e), h.res.ext e, h.wd.ext e, own_ext h.own e⟩
/-- A store into another box. -/
theorem FrD.set {w : World} {b2 : Nat} {P Q R : Pg} {S : Int} {lv : Value} {done : List Rc} {wq : World} {bx : Nat} (h : FrD w b2 P Q R S lv done wq) (h1 : b2 + 1 + 1 < bx) (hx : lv.ownBlock ≠ some bx) (o : Nat) (v : Value) : FrD w b2 P Q R S lv done (wq.setCell ⟨bx, o, none⟩ v) :=
  ⟨Below.setCell h.low (p := ⟨bx, o, none⟩) (by show b2 ≤ bx; omega) v, h.res.other ⟨bx, o, none⟩ v (by show b2 ≠ bx; omega), h.wd.other ⟨bx, o, none⟩ v (by show b2 + 1 + 1 ≠ bx; omega), own_other h.own (p := ⟨bx, o, none⟩) hx v⟩
end Go.Proofs.YtbfefocehnafgaaDoor.B
