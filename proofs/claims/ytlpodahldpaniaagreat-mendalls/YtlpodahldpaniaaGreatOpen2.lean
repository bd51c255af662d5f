/- How a slice of records that a law is handed is opened. -/
import Derived.Test.YtlpodahldpaniaaGreatOpen
import Derived.Test.YtlpodahldpaniaaGreatLogA
import Derived.Deep.Slices
namespace Go.Proofs.YtlpodahldpaniaaGreat.B
set_option maxRecDepth 100000
open Go.ChangeShapes Go.WideShapes Go.ChangeAt Go.RowKit

theorem recCells : Tryz.prog.cellsOf 65 = 8 := by kernel_rfl
theorem intCells : Tryz.prog.cellsOf 3 = 1 := by kernel_rfl
/-- A field of a record, as a number. -/
theorem rec_field {H : Type} {enc : TypeId × Value → H} {W : World} {n : Nat} {cs : List Value} {x : DataW H × List MemPlace} (h : DataW.trod enc Tryz.prog W 0 (fun _ => true) true n 3 cs = some x) : ∃ k, cs = [.int .i64 k] := by
  obtain ⟨k, hk, _⟩ := DataW.trod_int Tryz.underlying3 h
  exact ⟨k, hk⟩
set_option maxRecDepth 100000 in
theorem open_rec8 {H : Type} {enc : TypeId × Value → H} {W : World} {n : Nat} {cs : List Value} {x : DataW H × List MemPlace} (hl : cs.length = 8) (h : DataW.trod enc Tryz.prog W 0 (fun _ => true) true n 65 cs = some x) : ∃ r : Rc, cs = r.cs.toList := by
  obtain ⟨xs, k, _, _, _, hxl, hf⟩ := DataW.trod_struct Tryz.underlying65 h
  match cs, hl, xs, hxl with
  | [v0, v1, v2, v3, v4, v5, v6, v7], _, [y0, y1, y2, y3, y4, y5, y6, y7], _ =>
    have g0 : DataW.trod enc Tryz.prog W 0 (fun _ => true) true k 3 [v0] = some y0 := by have := hf 0 _ rfl; simpa [intCells] using this
    have g1 : DataW.trod enc Tryz.prog W 0 (fun _ => true) true k 3 [v1] = some y1 := by have := hf 1 _ rfl; simpa [intCells] using this
    have g2 : DataW.trod enc Tryz.prog W 0 (fun _ => true) true k 3 [v2] = some y2 := by have := hf 2 _ rfl; simpa [intCells] using this
    have g3 : DataW.trod enc Tryz.prog W 0 (fun _ => true) true k 3 [v3] = some y3 := by have := hf 3 _ rfl; simpa [intCells] using this
    have g4 : DataW.trod enc Tryz.prog W 0 (fun _ => true) true k 3 [v4] = some y4 := by have := hf 4 _ rfl; simpa [intCells] using this
    have g5 : DataW.trod enc Tryz.prog W 0 (fun _ => true) true k 3 [v5] = some y5 := by have := hf 5 _ rfl; simpa [intCells] using this
    have g6 : DataW.trod enc Tryz.prog W 0 (fun _ => true) true k 3 [v6] = some y6 := by have := hf 6 _ rfl; simpa [intCells] using this
    have g7 : DataW.trod enc Tryz.prog W 0 (fun _ => true) true k 3 [v7] = some y7 := by have := hf 7 _ rfl; simpa [intCells] using this
    obtain ⟨k0, e0⟩ := rec_field g0
    injection e0 with e0 _
    obtain ⟨k1, e1⟩ := rec_field g1
    injection e1 with e1 _
    obtain ⟨k2, e2⟩ := rec_field g2
    injection e2 with e2 _
    obtain ⟨k3, e3⟩ := rec_field g3
    injection e3 with e3 _
    obtain ⟨k4, e4⟩ := rec_field g4
    injection e4 with e4 _
    obtain ⟨k5, e5⟩ := rec_field g5
    injection e5 with e5 _
    obtain ⟨k6, e6⟩ := rec_field g6
    injection e6 with e6 _
    obtain ⟨k7, e7⟩ := rec_field g7
    injection e7 with e7 _
    exact ⟨⟨k0, k1, k2, k3, k4, k5, k6, k7⟩, by rw [e0, e1, e2, e3, e4, e5, e6, e7]⟩
theorem okWide_slice {W : World} {base : Nat} {v : Value} (h : Value.okWide Tryz.prog W .any base 26 v) : v = .slice none 0 0 ∨ ∃ b off len cap, v = .slice (some ⟨b, off, none⟩) len cap := by
  simp only [Value.okWide, Tryz.underlying26] at h
  simp only [Cell.okWide, Tryz.underlying26] at h
  cases v <;> simp only [Cell.ok, Tryz.underlying26] at h
  rename_i x len cap
  cases x with
  | none =>
    cases len with
    | zero => cases cap with
      | zero => exact Or.inl rfl
      | succ c => exact h.elim
    | succ l => exact h.elim
  | some a =>
    obtain ⟨b, off, sp⟩ := a
    have : sp = none := h.2.2.2.1
    subst this
    exact Or.inr ⟨b, off, len, cap, rfl⟩
theorem open_recs {H : Type} {enc : TypeId × Value → H} {W : World} {base : Nat} {v : Value} {d : DataW H} {ps : List MemPlace} (hval : Value.okWide Tryz.prog W .any base 26 v)
    (hd : DataW.Trod enc Tryz.prog W 0 (fun _ => true) true 26 v d ps) : ∃ x len cap l, v = .slice x len cap ∧ (Recs W x len l ∧ len ≤ cap ∧ len ≤ maxLen) := by
  obtain ⟨fuel, hf⟩ := hd
  rcases okWide_slice hval with rfl | ⟨b, off, len, cap, rfl⟩
  · exact ⟨none, 0, 0, [], rfl, ⟨rfl, Or.inl ⟨rfl, rfl⟩⟩, Nat.le_refl _, Nat.zero_le _⟩
  · rcases Go.Deep.open_slice Tryz.underlying26 hf with ⟨h0, _⟩ | ⟨a, len', cap', m, n, D, Pl, hcs, _, hlc, hcm, hm, _, hx⟩
    · simp [Value.cells] at h0
    · simp [Value.cells] at hcs
      obtain ⟨rfl, rfl, rfl⟩ := hcs
      have hlm : len ≤ m := by rw [hm]; split <;> omega
      have each : ∀ i, i < m → ∃ r : Rc, RecAt W b (off + i * 8) r := by
        intro i hi
        obtain ⟨cs', h1, h2⟩ := hx i hi
        rw [recCells] at h1
        obtain ⟨_, hl8, hcell⟩ := World.cells?_some h1
        obtain ⟨r, rfl⟩ := open_rec8 hl8 h2
        refine ⟨r, ?_⟩
        have g : ∀ j, j < 8 → W.cell? ⟨b, off + i * 8 + j, none⟩ = r.cs.toList[j]? := fun j hj => by
          have := hcell j hj
          rw [Addr.add_lit, Addr.add_lit] at this
          exact this
        exact ⟨g 0 (by omega), g 1 (by omega), g 2 (by omega), g 3 (by omega), g 4 (by omega), g 5 (by omega), g 6 (by omega), g 7 (by omega)⟩
      have all : ∃ l : List Rc, l.length = len ∧ ∀ i, (h : i < l.length) → RecAt W b (off + i * 8) l[i] := by
        have step : ∀ k, k ≤ len → ∃ l : List Rc, l.length = k ∧ ∀ i, (h : i < l.length) → RecAt W b (off + i * 8) l[i] := by
          intro k
          induction k with
          | zero => intro _; exact ⟨[], rfl, fun i h => absurd h (Nat.not_lt_zero i)⟩
          | succ k ih =>
            intro hk
            obtain ⟨l, hl, hr⟩ := ih (by omega)
            obtain ⟨r, hr2⟩ := each k (by omega)
            refine ⟨l ++ [r], by simp [hl], fun i h => ?_⟩
            by_cases hi : i < l.length
            · rw [List.getElem_append_left hi]; exact hr i hi
            · have : i = k := by simp at h; omega
              subst this
              rw [List.getElem_append_right (by omega)]
              simpa using hr2
        exact step len (Nat.le_refl _)
      obtain ⟨l, hl, hr⟩ := all
      exact ⟨_, _, _, l, rfl, ⟨hl, Or.inr ⟨b, off, rfl, hr⟩⟩, hlc, Nat.le_trans hlc hcm⟩
end Go.Proofs.YtlpodahldpaniaaGreat.B
