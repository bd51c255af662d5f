/- How a world that a law is handed is opened. -/
import Derived.Test.YtgojonhjhdbpkaaOpen2
import Derived.Test.YtgojonhjhdbpkaaDesk1
namespace Go.Proofs.Ytgojonhjhdbpkaa.B
set_option maxRecDepth 100000
open Go.ChangeShapes Go.WideShapes Go.ChangeAt Go.RowKit

theorem typesWorld : Try.prog.cellTypes Try.prog.depth 51 = some [3, 3, 3, 3, 3, 3, 3, 3, 3, 3, 3, 3, 22, 3] := by kernel_rfl
theorem worldCells : Try.prog.cellsOf 51 = 14 := by kernel_rfl
theorem pagesCells : Try.prog.cellsOf 30 = 12 := by kernel_rfl
theorem rowCells : Try.prog.cellsOf 22 = 1 := by kernel_rfl
theorem size14 {α : Type} {cs : Array α} (h : cs.size = 14) : ∃ a0 a1 a2 a3 a4 a5 a6 a7 a8 a9 a10 a11 a12 a13, cs = #[a0, a1, a2, a3, a4, a5, a6, a7, a8, a9, a10, a11, a12, a13] := by
  obtain ⟨l⟩ := cs
  match l, h with
  | [a0, a1, a2, a3, a4, a5, a6, a7, a8, a9, a10, a11, a12, a13], _ => exact ⟨a0, a1, a2, a3, a4, a5, a6, a7, a8, a9, a10, a11, a12, a13, rfl⟩
theorem cell_slice {W : World} {base : Nat} {v : Value} (h : Cell.okWide Try.prog W .any base 22 v) : v = .slice none 0 0 ∨ ∃ b off len cap, v = .slice (some ⟨b, off, none⟩) len cap := by
  simp only [Cell.okWide, Try.underlying22] at h
  cases v <;> simp only [Cell.ok, Try.underlying22] at h
  rename_i x len cap
  cases x with
  | none =>
    cases len with
    | zero => cases cap with
      | zero => exact Or.inl rfl
      | succ c => exact h.elim
    | succ l => exact h.elim
  | some a =>
    obtain ⟨b, off, sp⟩ := a
    have : sp = none := h.2.2.2.1
    subst this
    exact Or.inr ⟨b, off, len, cap, rfl⟩
theorem recs_of_trod {H : Type} {enc : TypeId × Value → H} {W : World} {b off len cap fuel : Nat} {x : DataW H × List MemPlace} (hf : DataW.trod enc Try.prog W 0 (fun _ => true) true fuel 22 [.slice (some ⟨b, off, none⟩) len cap] = some x) :
    ∃ l, Recs W (some ⟨b, off, none⟩) len l ∧ len ≤ cap ∧ len ≤ maxLen := by
  rcases Go.Deep.open_slice Try.underlying22 hf with ⟨h0, _⟩ | ⟨a, len', cap', m, n, D, Pl, hcs, _, hlc, hcm, hm, _, hx⟩
  · simp at h0
  · simp at hcs
    obtain ⟨rfl, rfl, rfl⟩ := hcs
    have hlm : len ≤ m := by rw [hm]; split <;> omega
    have each : ∀ i, i < m → ∃ r : Rc, RecAt W b (off + i * 8) r := by
      intro i hi
      obtain ⟨cs', h1, h2⟩ := hx i hi
      rw [recCells] at h1
      obtain ⟨_, hl8, hcell⟩ := World.cells?_some h1
      obtain ⟨r, rfl⟩ := open_rec8 hl8 h2
      refine ⟨r, ?_⟩
      have g : ∀ j, j < 8 → W.cell? ⟨b, off + i * 8 + j, none⟩ = r.cs.toList[j]? := fun j hj => by
        have := hcell j hj
        rw [Addr.add_lit, Addr.add_lit] at this
        exact this
      exact ⟨g 0 (by omega), g 1 (by omega), g 2 (by omega), g 3 (by omega), g 4 (by omega), g 5 (by omega), g 6 (by omega), g 7 (by omega)⟩
    have step : ∀ k, k ≤ len → ∃ l : List Rc, l.length = k ∧ ∀ i, (h : i < l.length) → RecAt W b (off + i * 8) l[i] := by
      intro k
      induction k with
      | zero => intro _; exact ⟨[], rfl, fun i h => absurd h (Nat.not_lt_zero i)⟩
      | succ k ih =>
        intro hk
        obtain ⟨l, hl, hr⟩ := ih (by omega)
        obtain ⟨r, hr2⟩ := each k (by omega)
        refine ⟨l ++ [r], by simp [hl], fun i h => ?_⟩
        by_cases hi : i < l.length
        · rw [List.getElem_append_left hi]; exact hr i hi
        · have : i = k := by simp at h; omega
          subst this
          rw [List.getElem_append_right (by omega)]
          simpa using hr2
    obtain ⟨l, hl, hr⟩ := step len (Nat.le_refl _)
    exact ⟨l, ⟨hl, Or.inr ⟨b, off, rfl, hr⟩⟩, hlc, Nat.le_trans hlc hcm⟩
/-- What is known of a world's log. -/
structure LogIn (W : World) (a : Option Addr) (len cap : Nat) (l : List Rc) : Prop where
  recs : Recs W a len l
  le : len ≤ cap
  max : len ≤ maxLen
  nil : a = none → cap = 0
theorem LogIn.ext {W W' : World} {a : Option Addr} {len cap : Nat} {l : List Rc} (h : LogIn W a len cap l) (e : Ext W W') : LogIn W' a len cap l := ⟨h.recs.ext e, h.le, h.max, h.nil⟩
set_option maxHeartbeats 1000000 in
theorem open_wd {H : Type} {enc : TypeId × Value → H} {W : World} {base : Nat} {v : Value} {d : DataW H} {ps : List MemPlace} (hval : Value.okWide Try.prog W .any base 51 v)
    (hd : DataW.Trod enc Try.prog W 0 (fun _ => true) true 51 v d ps) : ∃ p q r a len cap l safe, v = wdVal p q r (.slice a len cap) safe ∧ LogIn W a len cap l := by
  simp only [Value.okWide, Try.underlying51] at hval
  obtain ⟨cs, rfl, hs, ts, ht, _, hc⟩ := hval
  rw [typesWorld] at ht
  obtain rfl := Option.some.inj ht
  rw [worldCells] at hs
  obtain ⟨a0, a1, a2, a3, a4, a5, a6, a7, a8, a9, a10, a11, a12, a13, rfl⟩ := size14 hs
  obtain ⟨u0, e0, h0⟩ := hc 0 a0 rfl
  obtain rfl := Option.some.inj e0
  obtain ⟨n0, rfl, _⟩ := cell_int h0
  obtain ⟨u1, e1, h1⟩ := hc 1 a1 rfl
  obtain rfl := Option.some.inj e1
  obtain ⟨n1, rfl, _⟩ := cell_int h1
  obtain ⟨u2, e2, h2⟩ := hc 2 a2 rfl
  obtain rfl := Option.some.inj e2
  obtain ⟨n2, rfl, _⟩ := cell_int h2
  obtain ⟨u3, e3, h3⟩ := hc 3 a3 rfl
  obtain rfl := Option.some.inj e3
  obtain ⟨n3, rfl, _⟩ := cell_int h3
  obtain ⟨u4, e4, h4⟩ := hc 4 a4 rfl
  obtain rfl := Option.some.inj e4
  obtain ⟨n4, rfl, _⟩ := cell_int h4
  obtain ⟨u5, e5, h5⟩ := hc 5 a5 rfl
  obtain rfl := Option.some.inj e5
  obtain ⟨n5, rfl, _⟩ := cell_int h5
  obtain ⟨u6, e6, h6⟩ := hc 6 a6 rfl
  obtain rfl := Option.some.inj e6
  obtain ⟨n6, rfl, _⟩ := cell_int h6
  obtain ⟨u7, e7, h7⟩ := hc 7 a7 rfl
  obtain rfl := Option.some.inj e7
  obtain ⟨n7, rfl, _⟩ := cell_int h7
  obtain ⟨u8, e8, h8⟩ := hc 8 a8 rfl
  obtain rfl := Option.some.inj e8
  obtain ⟨n8, rfl, _⟩ := cell_int h8
  obtain ⟨u9, e9, h9⟩ := hc 9 a9 rfl
  obtain rfl := Option.some.inj e9
  obtain ⟨n9, rfl, _⟩ := cell_int h9
  obtain ⟨u10, e10, h10⟩ := hc 10 a10 rfl
  obtain rfl := Option.some.inj e10
  obtain ⟨n10, rfl, _⟩ := cell_int h10
  obtain ⟨u11, e11, h11⟩ := hc 11 a11 rfl
  obtain rfl := Option.some.inj e11
  obtain ⟨n11, rfl, _⟩ := cell_int h11
  obtain ⟨u13, e13, h13⟩ := hc 13 a13 rfl
  obtain rfl := Option.some.inj e13
  obtain ⟨n13, rfl, _⟩ := cell_int h13
  obtain ⟨u12, e12, h12⟩ := hc 12 a12 rfl
  obtain rfl := Option.some.inj e12
  obtain ⟨fuel, hf⟩ := hd
  obtain ⟨xs, k, _, _, _, hxl, hfs⟩ := DataW.trod_struct Try.underlying51 hf
  rcases cell_slice h12 with rfl | ⟨b, off, len, cap, rfl⟩
  · exact ⟨⟨n0, n1, n2, n3⟩, ⟨n4, n5, n6, n7⟩, ⟨n8, n9, n10, n11⟩, none, 0, 0, [], n13, rfl, ⟨⟨rfl, Or.inl ⟨rfl, rfl⟩⟩, Nat.le_refl _, Nat.zero_le _, fun _ => rfl⟩⟩
  · match xs, hxl with
    | [y0, y1, y2], _ =>
      have g1 : DataW.trod enc Try.prog W 0 (fun _ => true) true k 22 [.slice (some ⟨b, off, none⟩) len cap] = some y1 := by have := hfs 1 _ rfl; simpa [rowCells, Value.cells] using this
      obtain ⟨l, h1, h2, h3⟩ := recs_of_trod g1
      exact ⟨⟨n0, n1, n2, n3⟩, ⟨n4, n5, n6, n7⟩, ⟨n8, n9, n10, n11⟩, some ⟨b, off, none⟩, len, cap, l, n13, rfl, ⟨h1, h2, h3, fun h => by cases h⟩⟩
end Go.Proofs.Ytgojonhjhdbpkaa.B
