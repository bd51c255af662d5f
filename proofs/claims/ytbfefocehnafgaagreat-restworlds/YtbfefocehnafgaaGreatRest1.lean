/- Rows of cells that may be written: a log, numbers. -/
import Derived.Test.YtbfefocehnafgaaGreatAct5
namespace Go.Proofs.YtbfefocehnafgaaGreat.B
set_option maxRecDepth 100000
open Go.ChangeShapes Go.WideShapes Go.ChangeAt Go.RowKit

/-- Cells that are there, and not frozen. -/
def Free (w : World) (b lo n : Nat) : Prop := ∃ c t f, w.heap[b]? = some (.cells c t f) ∧ lo + n ≤ c.size ∧ ∀ o, lo ≤ o → o < lo + n → w.frozen? ⟨b, o, none⟩ = false
theorem Free.set {w : World} {b lo n : Nat} (h : Free w b lo n) (p : Addr) (v : Value) : Free (w.setCell p v) b lo n := by
  obtain ⟨c, t, f, hb, hs, hf⟩ := h
  by_cases hp : b = p.block
  · have e : (w.setCell p v).heap[b]? = some (.cells (if p.spot.isSome then c else c.setIfInBounds p.off v) t f) := by subst hp; simp [World.setCell, Array.getElem?_modify, hb]
    refine ⟨_, t, f, e, by split <;> simpa using hs, fun o h1 h2 => ?_⟩
    have := hf o h1 h2
    simp only [World.frozen?, hb, e] at this ⊢
    exact this
  · have e : (w.setCell p v).heap[b]? = w.heap[b]? := Below.heap_setCell _ _ _ _ hp
    refine ⟨c, t, f, by rw [e]; exact hb, hs, fun o h1 h2 => ?_⟩
    have := hf o h1 h2
    simp only [World.frozen?, e] at this ⊢
    exact this
theorem Free.cell {w : World} {b lo n : Nat} (h : Free w b lo n) (o : Nat) (_ : lo ≤ o) (h2 : o < lo + n) : ∃ v, w.cell? ⟨b, o, none⟩ = some v := by
  obtain ⟨c, t, f, hb, hs, hf⟩ := h
  exact ⟨c[o]'(by omega), by simp [World.cell?, hb]⟩
theorem Free.fr {w : World} {b lo n : Nat} (h : Free w b lo n) (o : Nat) (h1 : lo ≤ o) (h2 : o < lo + n) : w.frozen? ⟨b, o, none⟩ = false := by
  obtain ⟨c, t, f, hb, hs, hf⟩ := h
  exact hf o h1 h2
theorem free_of {w : World} {b lo n : Nat} (hn : 0 < n) {v : Value} (hc : w.cell? ⟨b, lo + (n - 1), none⟩ = some v) (hf : ∀ o, lo ≤ o → o < lo + n → w.frozen? ⟨b, o, none⟩ = false) : Free w b lo n := by
  unfold World.cell? at hc
  cases hb : w.heap[b]? with
  | none => simp [hb] at hc
  | some o =>
    cases o with
    | cells c t f =>
      simp [hb] at hc
      have := (Array.getElem?_eq_some_iff.1 hc).1
      exact ⟨c, t, f, hb, by omega, hf⟩
    | _ => simp [hb] at hc
/-- Records, numbers that may be written over. -/
def FreeA (w : World) (a : Option Addr) (n : Nat) : Prop := ∀ k, k < n → ∃ b off, a = some ⟨b, off, none⟩ ∧ Free w b (off + k * 8) 8
def FreeI (w : World) (a : Option Addr) (n : Nat) : Prop := ∀ k, k < n → ∃ b, a = some ⟨b, 0, none⟩ ∧ Free w b k 1
theorem FreeA.set {w : World} {a : Option Addr} {n : Nat} (h : FreeA w a n) (p : Addr) (v : Value) : FreeA (w.setCell p v) a n := fun k hk => by
  obtain ⟨b, off, e, f⟩ := h k hk
  exact ⟨b, off, e, f.set p v⟩
theorem FreeI.set {w : World} {a : Option Addr} {n : Nat} (h : FreeI w a n) (p : Addr) (v : Value) : FreeI (w.setCell p v) a n := fun k hk => by
  obtain ⟨b, e, f⟩ := h k hk
  exact ⟨b, e, f.set p v⟩
theorem LogIn.free {w : World} {a : Option Addr} {len cap : Nat} {l : List Rc} (h : LogIn w a len cap l) : FreeA w a len := fun k hk => by
  obtain ⟨b, off, e, hl, hr⟩ := h.recs.at hk
  exact ⟨b, off, e, free_of (by omega) hr.2.2.2.2.2.2.2 fun o h1 h2 => by
    have := h.fr _ e (o - off) (by omega)
    rw [show off + (o - off) = o by omega] at this
    exact this⟩
theorem ints_free {base : Nat} {w : World} {a : Option Addr} {ns : List Int} (h : Ints base w a ns) (hf : ∀ k o, a = some ⟨k, 0, none⟩ → w.frozen? ⟨k, o, none⟩ = false) : FreeI w a ns.length := fun k hk => by
  obtain ⟨b, e, hc⟩ := h.at hk
  exact ⟨b, e, free_of (by omega) hc fun o _ _ => hf b o e⟩
/-- The block that is written over. -/
def rowOf (a : Option Addr) (n : Nat) : Option Nat := if n = 0 then none else a.map (·.block)
theorem rowOf_at {a : Option Addr} {n k b off : Nat} (hk : k < n) (e : a = some ⟨b, off, none⟩) : rowOf a n = some b := by
  unfold rowOf
  rw [if_neg (by omega), e]
  rfl
theorem rowOf_ge {a : Option Addr} {n base : Nat} (h : ∀ ad, a = some ad → base ≤ ad.block) : ∀ r, rowOf a n = some r → base ≤ r := fun r e => by
  unfold rowOf at e
  split at e
  · cases e
  · cases a with
    | none => cases e
    | some ad => have := h ad rfl; simp at e; omega
theorem rowOf_lt {w : World} {a : Option Addr} {len cap : Nat} {l : List Rc} (h : LogIn w a len cap l) : ∀ r, rowOf a len = some r → r < w.heap.size := fun r e => by
  unfold rowOf at e
  split at e
  · cases e
  · rename_i hn
    cases a with
    | none => cases e
    | some ad => have := h.recs.lt (by omega) ad rfl; simp at e; omega
theorem row_ne {o : Option Nat} {lo hi : Nat} (h1 : ∀ r, o = some r → lo ≤ r) (h2 : ∀ r, o = some r → r < hi) {k : Nat} (hk : k < lo ∨ hi ≤ k) : some k ≠ o := fun e => by
  have := h1 k e.symm
  have := h2 k e.symm
  omega
theorem Free.gr {row : Option Nat} {w w' : World} {b lo n : Nat} (h : Free w b lo n) (g : Gr row w w') (hn : some b ≠ row) : Free w' b lo n := by
  obtain ⟨c, t, f, hb, hs, hf⟩ := h
  have hlt : b < w.heap.size := by
    by_cases hx : b < w.heap.size
    · exact hx
    · have : w.heap[b]? = none := by simp; omega
      rw [this] at hb; cases hb
  have e := g.block b hlt hn
  exact ⟨c, t, f, by rw [e]; exact hb, hs, fun o h1 h2 => (frozen_at e o).trans (hf o h1 h2)⟩
theorem FreeI.gr {row : Option Nat} {w w' : World} {a : Option Addr} {n : Nat} (h : FreeI w a n) (g : Gr row w w') (hn : ∀ b, a = some ⟨b, 0, none⟩ → 0 < n → some b ≠ row) : FreeI w' a n := fun k hk => by
  obtain ⟨b, e, f⟩ := h k hk
  exact ⟨b, e, f.gr g (hn b e (by omega))⟩
theorem ints_ge {base : Nat} {w : World} {a : Option Addr} {ns : List Int} (h : Ints base w a ns) : ∀ b, a = some ⟨b, 0, none⟩ → 0 < ns.length → base ≤ b := fun b e hl => by
  rcases h with h0 | ⟨b', hb, e', _⟩
  · rw [h0] at hl; simp at hl
  · rw [e'] at e
    simp at e
    omega
theorem ints_row {base : Nat} {w : World} {a : Option Addr} {ns : List Int} (h : Ints base w a ns) : ∀ r, rowOf a ns.length = some r → base ≤ r := fun r e => by
  unfold rowOf at e
  split at e
  · cases e
  · rename_i hn
    rcases h with h0 | ⟨b', hb, e', _⟩
    · rw [h0] at hn; exact absurd rfl hn
    · rw [e'] at e
      simp at e
      omega
theorem cut_len {p q r : Pg} {l : List Rc} {safe : Int} (h : worldErr p q r l safe = 0) : (l.take safe.toNat).length ≤ 60 := by
  have := right_len _ (logErr_zero (worldErr_zero h).1).2
  rw [List.length_take]
  omega
theorem losersOr_le (l : List Rc) : (losersOr l).length ≤ 9 := by
  unfold losersOr
  split
  · exact losersR_le l
  · exact Nat.zero_le _
end Go.Proofs.YtbfefocehnafgaaGreat.B
