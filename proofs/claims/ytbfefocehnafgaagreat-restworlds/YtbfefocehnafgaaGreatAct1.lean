/- Acts as values, and slices of acts in memory; how the acts that a law is handed are opened. -/
import Derived.Test.YtbfefocehnafgaaGreatPlainB
import Derived.Test.YtbfefocehnafgaaGreatDeskB
namespace Go.Proofs.YtbfefocehnafgaaGreat.B
set_option maxRecDepth 100000
open Go.ChangeShapes Go.WideShapes Go.ChangeAt Go.RowKit

abbrev Ac.v (x : Ac) : Value := .agg #[.int .i64 x.kind, .int .i64 x.txn, .int .i64 x.page, .int .i64 x.cell, .int .i64 x.val]
abbrev Ac.cs (x : Ac) : List Value := [.int .i64 x.kind, .int .i64 x.txn, .int .i64 x.page, .int .i64 x.cell, .int .i64 x.val]
theorem typesAct : Tryz.prog.cellTypes Tryz.prog.depth 30 = some [3, 3, 3, 3, 3] := by kernel_rfl
theorem actCells : Tryz.prog.cellsOf 30 = 5 := by kernel_rfl
theorem size5 {α : Type} {cs : Array α} (h : cs.size = 5) : ∃ a b c d e, cs = #[a, b, c, d, e] := by
  obtain ⟨l⟩ := cs
  match l, h with
  | [a, b, c, d, e], _ => exact ⟨a, b, c, d, e, rfl⟩
theorem open_ac {w : World} {r : Reach} {base : Nat} {v : Value} (h : Value.okWide Tryz.prog w r base 30 v) : ∃ x : Ac, v = x.v := by
  simp only [Value.okWide, Tryz.underlying30] at h
  obtain ⟨cs, rfl, hs, ts, ht, _, hc⟩ := h
  rw [typesAct] at ht
  obtain rfl := Option.some.inj ht
  rw [actCells] at hs
  obtain ⟨a, b, c, d, e, rfl⟩ := size5 hs
  obtain ⟨u0, e0, h0⟩ := hc 0 a rfl
  obtain ⟨u1, e1, h1⟩ := hc 1 b rfl
  obtain ⟨u2, e2, h2⟩ := hc 2 c rfl
  obtain ⟨u3, e3, h3⟩ := hc 3 d rfl
  obtain ⟨u4, e4, h4⟩ := hc 4 e rfl
  obtain rfl := Option.some.inj e0
  obtain rfl := Option.some.inj e1
  obtain rfl := Option.some.inj e2
  obtain rfl := Option.some.inj e3
  obtain rfl := Option.some.inj e4
  obtain ⟨n0, rfl, _⟩ := cell_int h0
  obtain ⟨n1, rfl, _⟩ := cell_int h1
  obtain ⟨n2, rfl, _⟩ := cell_int h2
  obtain ⟨n3, rfl, _⟩ := cell_int h3
  obtain ⟨n4, rfl, _⟩ := cell_int h4
  exact ⟨⟨n0, n1, n2, n3, n4⟩, rfl⟩
/-- Five cells that are an act. -/
def ActAt (w : World) (b o : Nat) (x : Ac) : Prop :=
  w.cell? ⟨b, o, none⟩ = some (.int .i64 x.kind) ∧ w.cell? ⟨b, o + 1, none⟩ = some (.int .i64 x.txn) ∧ w.cell? ⟨b, o + 2, none⟩ = some (.int .i64 x.page) ∧ w.cell? ⟨b, o + 3, none⟩ = some (.int .i64 x.cell) ∧ w.cell? ⟨b, o + 4, none⟩ = some (.int .i64 x.val)
theorem ActAt.ext {w w' : World} {b o : Nat} {x : Ac} (h : ActAt w b o x) (e : Ext w w') : ActAt w' b o x := by
  obtain ⟨h0, h1, h2, h3, h4⟩ := h
  exact ⟨e.cell h0, e.cell h1, e.cell h2, e.cell h3, e.cell h4⟩
/-- A slice's address and length, and the acts that it leads to. -/
def Acts (w : World) (a : Option Addr) (len : Nat) (l : List Ac) : Prop :=
  l.length = len ∧ ((a = none ∧ len = 0) ∨ ∃ b off, a = some ⟨b, off, none⟩ ∧ ∀ i, (h : i < l.length) → ActAt w b (off + i * 5) l[i])
theorem Acts.ext {w w' : World} {a : Option Addr} {len : Nat} {l : List Ac} (h : Acts w a len l) (e : Ext w w') : Acts w' a len l := by
  obtain ⟨hl, h⟩ := h
  refine ⟨hl, ?_⟩
  rcases h with h | ⟨b, off, ha, hc⟩
  · exact Or.inl h
  · exact Or.inr ⟨b, off, ha, fun i hi => (hc i hi).ext e⟩
theorem Acts.at {w : World} {a : Option Addr} {len : Nat} {l : List Ac} (h : Acts w a len l) {k : Nat} (hk : k < len) : ∃ b off, a = some ⟨b, off, none⟩ ∧ ∃ hl : k < l.length, ActAt w b (off + k * 5) l[k] := by
  obtain ⟨hl, h⟩ := h
  rcases h with ⟨_, h⟩ | ⟨b, off, ha, hc⟩
  · omega
  · exact ⟨b, off, ha, by omega, hc k (by omega)⟩
theorem Acts.len {w : World} {a : Option Addr} {len : Nat} {l : List Ac} (h : Acts w a len l) : l.length = len := h.1
set_option maxRecDepth 100000 in
theorem open_act5 {H : Type} {enc : TypeId × Value → H} {W : World} {n : Nat} {cs : List Value} {x : DataW H × List MemPlace} (hl : cs.length = 5) (h : DataW.trod enc Tryz.prog W 0 (fun _ => true) true n 30 cs = some x) : ∃ r : Ac, cs = r.cs := by
  obtain ⟨xs, k, _, _, _, hxl, hf⟩ := DataW.trod_struct Tryz.underlying30 h
  match cs, hl, xs, hxl with
  | [v0, v1, v2, v3, v4], _, [y0, y1, y2, y3, y4], _ =>
    have g0 : DataW.trod enc Tryz.prog W 0 (fun _ => true) true k 3 [v0] = some y0 := by have := hf 0 _ rfl; simpa [intCells] using this
    have g1 : DataW.trod enc Tryz.prog W 0 (fun _ => true) true k 3 [v1] = some y1 := by have := hf 1 _ rfl; simpa [intCells] using this
    have g2 : DataW.trod enc Tryz.prog W 0 (fun _ => true) true k 3 [v2] = some y2 := by have := hf 2 _ rfl; simpa [intCells] using this
    have g3 : DataW.trod enc Tryz.prog W 0 (fun _ => true) true k 3 [v3] = some y3 := by have := hf 3 _ rfl; simpa [intCells] using this
    have g4 : DataW.trod enc Tryz.prog W 0 (fun _ => true) true k 3 [v4] = some y4 := by have := hf 4 _ rfl; simpa [intCells] using this
    obtain ⟨k0, e0⟩ := rec_field g0
    injection e0 with e0 _
    obtain ⟨k1, e1⟩ := rec_field g1
    injection e1 with e1 _
    obtain ⟨k2, e2⟩ := rec_field g2
    injection e2 with e2 _
    obtain ⟨k3, e3⟩ := rec_field g3
    injection e3 with e3 _
    obtain ⟨k4, e4⟩ := rec_field g4
    injection e4 with e4 _
    exact ⟨⟨k0, k1, k2, k3, k4⟩, by rw [e0, e1, e2, e3, e4]⟩
theorem okWide_acts {W : World} {base : Nat} {v : Value} (h : Value.okWide Tryz.prog W .any base 37 v) : v = .slice none 0 0 ∨ ∃ b off len cap, v = .slice (some ⟨b, off, none⟩) len cap := by
  simp only [Value.okWide, Tryz.underlying37] at h
  simp only [Cell.okWide, Tryz.underlying37] at h
  cases v <;> simp only [Cell.ok, Tryz.underlying37] at h
  rename_i x len cap
  cases x with
  | none =>
    cases len with
    | zero => cases cap with
      | zero => exact Or.inl rfl
      | succ c => exact h.elim
    | succ l => exact h.elim
  | some a =>
    obtain ⟨b, off, sp⟩ := a
    have : sp = none := h.2.2.2.1
    subst this
    exact Or.inr ⟨b, off, len, cap, rfl⟩
theorem open_acts {H : Type} {enc : TypeId × Value → H} {W : World} {base : Nat} {v : Value} {d : DataW H} {ps : List MemPlace} (hval : Value.okWide Tryz.prog W .any base 37 v)
    (hd : DataW.Trod enc Tryz.prog W 0 (fun _ => true) true 37 v d ps) : ∃ x len cap l, v = .slice x len cap ∧ (Acts W x len l ∧ len ≤ cap ∧ len ≤ maxLen) := by
  obtain ⟨fuel, hf⟩ := hd
  rcases okWide_acts hval with rfl | ⟨b, off, len, cap, rfl⟩
  · exact ⟨none, 0, 0, [], rfl, ⟨rfl, Or.inl ⟨rfl, rfl⟩⟩, Nat.le_refl _, Nat.zero_le _⟩
  · rcases Go.Deep.open_slice Tryz.underlying37 hf with ⟨h0, _⟩ | ⟨a, len', cap', m, n, D, Pl, hcs, _, hlc, hcm, hm, _, hx⟩
    · simp [Value.cells] at h0
    · simp [Value.cells] at hcs
      obtain ⟨rfl, rfl, rfl⟩ := hcs
      have hlm : len ≤ m := by rw [hm]; split <;> omega
      have each : ∀ i, i < m → ∃ r : Ac, ActAt W b (off + i * 5) r := by
        intro i hi
        obtain ⟨cs', h1, h2⟩ := hx i hi
        rw [actCells] at h1
        obtain ⟨_, hl5, hcell⟩ := World.cells?_some h1
        obtain ⟨r, rfl⟩ := open_act5 hl5 h2
        refine ⟨r, ?_⟩
        have g : ∀ j, j < 5 → W.cell? ⟨b, off + i * 5 + j, none⟩ = r.cs[j]? := fun j hj => by
          have := hcell j hj
          rw [Addr.add_lit, Addr.add_lit] at this
          exact this
        exact ⟨g 0 (by omega), g 1 (by omega), g 2 (by omega), g 3 (by omega), g 4 (by omega)⟩
      have step : ∀ k, k ≤ len → ∃ l : List Ac, l.length = k ∧ ∀ i, (h : i < l.length) → ActAt W b (off + i * 5) l[i] := by
        intro k
        induction k with
        | zero => intro _; exact ⟨[], rfl, fun i h => absurd h (Nat.not_lt_zero i)⟩
        | succ k ih =>
          intro hk
          obtain ⟨l, hl, hr⟩ := ih (by omega)
          obtain ⟨r, hr2⟩ := each k (by omega)
          refine ⟨l ++ [r], by simp [hl], fun i h => ?_⟩
          by_cases hi : i < l.length
          · rw [List.getElem_append_left hi]; exact hr i hi
          · have : i = k := by simp at h; omega
            subst this
            rw [List.getElem_append_right (by omega)]
            simpa using hr2
      obtain ⟨l, hl, hr⟩ := step len (Nat.le_refl _)
      exact ⟨_, _, _, l, rfl, ⟨hl, Or.inr ⟨b, off, rfl, hr⟩⟩, hlc, Nat.le_trans hlc hcm⟩
end Go.Proofs.YtbfefocehnafgaaGreat.B
