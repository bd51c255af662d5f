/- What All and Half answer, in one form for the world and for the error. How slices of truths, and of numbers, that a law is handed are opened. -/
import Derived.Test.YtlpodahldpaniaaGreatCrew9
import Derived.Test.YtlpodahldpaniaaGreatAns
import Derived.Test.YtlpodahldpaniaaGreatOpen2
import Derived.Test.YtlpodahldpaniaaGreatCrewB
namespace Go.Proofs.YtlpodahldpaniaaGreat.B
set_option maxRecDepth 100000
open Go.ChangeShapes Go.WideShapes Go.ChangeAt Go.RowKit

/-- What All answers, in one form for the world and for the error. -/
theorem AllAns.all {base : Nat} {w' : World} {e : Ending} {p q r : Pg} {x : Int} {n : Nat} {l' : List Rc} {s : Int} (h : AllAns base w' e p q r x n l' s) :
    ∃ a cap, e = .returned (.tuple #[wdVal (ansP x p) (ansP x q) (ansP x r) (.slice a (ansL x l').length cap) (ansS x s), .int .i64 (ansS x (n : Nat)), .int .i64 x]) ∧ LogIn w' a (ansL x l').length cap (ansL x l') := by
  unfold ansP ansL ansS
  rcases h with ⟨rfl, a, cap, rfl, hin, _⟩ | ⟨hx, rfl⟩
  · exact ⟨a, cap, rfl, hin⟩
  · simp only [if_neg hx]
    exact ⟨none, 0, rfl, ⟨recs_none _, Nat.le_refl _, Nat.zero_le _, fun _ => rfl⟩⟩
theorem WorkAns.allIn {base : Nat} {w' : World} {e : Ending} {p q r : Pg} {x : Int} {l' : List Rc} {s : Int} (h : WorkAns base w' e p q r x l' s) :
    ∃ a cap, e = .returned (.tuple #[wdVal (ansP x p) (ansP x q) (ansP x r) (.slice a (ansL x l').length cap) (ansS x s), .int .i64 x]) ∧ LogIn w' a (ansL x l').length cap (ansL x l') := by
  unfold ansP ansL ansS
  rcases h with ⟨rfl, a, cap, rfl, hin, _⟩ | ⟨hx, rfl⟩
  · exact ⟨a, cap, rfl, hin⟩
  · simp only [if_neg hx]
    exact ⟨none, 0, rfl, ⟨recs_none _, Nat.le_refl _, Nat.zero_le _, fun _ => rfl⟩⟩
theorem ans_ok {x : Int} (h : x = 0) (p : Pg) (l : List Rc) (s : Int) : ansP x p = p ∧ ansL x l = l ∧ ansS x s = s := by
  unfold ansP ansL ansS
  rw [if_pos h, if_pos h, if_pos h]
  exact ⟨rfl, rfl, rfl⟩
theorem errOf_half {we e : Int} (h : errOf we e = 0) : we = 0 ∧ e = 0 := errOf_zero h
end Go.Proofs.YtlpodahldpaniaaGreat.B
namespace Go.Proofs.YtlpodahldpaniaaGreat.B
set_option maxRecDepth 100000
open Go.ChangeShapes Go.WideShapes Go.ChangeAt Go.RowKit

theorem boolCells : Tryz.prog.cellsOf 4 = 1 := by kernel_rfl
theorem okWide_bools {W : World} {base : Nat} {v : Value} (h : Value.okWide Tryz.prog W .any base 35 v) : v = .slice none 0 0 ∨ ∃ b off len cap, v = .slice (some ⟨b, off, none⟩) len cap := by
  simp only [Value.okWide, Tryz.underlying35] at h
  simp only [Cell.okWide, Tryz.underlying35] at h
  cases v <;> simp only [Cell.ok, Tryz.underlying35] at h
  rename_i x len cap
  cases x with
  | none =>
    cases len with
    | zero => cases cap with
      | zero => exact Or.inl rfl
      | succ c => exact h.elim
    | succ l => exact h.elim
  | some a =>
    obtain ⟨b, off, sp⟩ := a
    have : sp = none := h.2.2.2.1
    subst this
    exact Or.inr ⟨b, off, len, cap, rfl⟩
theorem okWide_ints {W : World} {base : Nat} {v : Value} (h : Value.okWide Tryz.prog W .any base 45 v) : v = .slice none 0 0 ∨ ∃ b off len cap, v = .slice (some ⟨b, off, none⟩) len cap := by
  simp only [Value.okWide, Tryz.underlying45] at h
  simp only [Cell.okWide, Tryz.underlying45] at h
  cases v <;> simp only [Cell.ok, Tryz.underlying45] at h
  rename_i x len cap
  cases x with
  | none =>
    cases len with
    | zero => cases cap with
      | zero => exact Or.inl rfl
      | succ c => exact h.elim
    | succ l => exact h.elim
  | some a =>
    obtain ⟨b, off, sp⟩ := a
    have : sp = none := h.2.2.2.1
    subst this
    exact Or.inr ⟨b, off, len, cap, rfl⟩
/-- A slice's address and the numbers that it leads to, wherever they lie. -/
def NumsAt (w : World) (a : Option Addr) (len : Nat) (ns : List Int) : Prop := ns.length = len ∧ (∀ n ∈ ns, IntKind.i64.has n) ∧ (ns = [] ∨ ∃ b off, a = some ⟨b, off, none⟩ ∧ ∀ i, (h : i < ns.length) → w.cell? ⟨b, off + i, none⟩ = some (.int .i64 ns[i]))
theorem NumsAt.ext {w w' : World} {a : Option Addr} {len : Nat} {ns : List Int} (h : NumsAt w a len ns) (e : Ext w w') : NumsAt w' a len ns := by
  obtain ⟨h1, h2, h | ⟨b, off, ha, hc⟩⟩ := h
  · exact ⟨h1, h2, Or.inl h⟩
  · exact ⟨h1, h2, Or.inr ⟨b, off, ha, fun i hi => e.cell (hc i hi)⟩⟩
theorem NumsAt.at {w : World} {a : Option Addr} {len : Nat} {ns : List Int} (h : NumsAt w a len ns) {k : Nat} (hk : k < ns.length) : ∃ b off, a = some ⟨b, off, none⟩ ∧ w.cell? ⟨b, off + k, none⟩ = some (.int .i64 ns[k]) ∧ IntKind.i64.has ns[k] := by
  obtain ⟨_, h2, h | ⟨b, off, ha, hc⟩⟩ := h
  · rw [h] at hk; exact absurd hk (Nat.not_lt_zero k)
  · exact ⟨b, off, ha, hc k hk, h2 _ (List.getElem_mem hk)⟩
/-- A list of what is there, one by one. -/
theorem list_of {α : Type} (p : Nat → α → Prop) (n : Nat) (h : ∀ i, i < n → ∃ a, p i a) : ∃ l : List α, l.length = n ∧ ∀ i, (hi : i < l.length) → p i l[i] := by
  induction n with
  | zero => exact ⟨[], rfl, fun i hi => absurd hi (Nat.not_lt_zero i)⟩
  | succ n ih =>
    obtain ⟨l, hl, hp⟩ := ih (fun i hi => h i (by omega))
    obtain ⟨a, ha⟩ := h n (by omega)
    refine ⟨l ++ [a], by simp [hl], fun i hi => ?_⟩
    by_cases hin : i < l.length
    · rw [List.getElem_append_left hin]; exact hp i hin
    · have : i = n := by simp at hi; omega
      subst this
      rw [List.getElem_append_right (by omega)]
      simpa using ha
theorem open_bools {H : Type} {enc : TypeId × Value → H} {W : World} {base : Nat} {v : Value} {d : DataW H} {ps : List MemPlace} (hval : Value.okWide Tryz.prog W .any base 35 v)
    (hd : DataW.Trod enc Tryz.prog W 0 (fun _ => true) true 35 v d ps) : ∃ x len cap bs, v = .slice x len cap ∧ (Bools W x len bs ∧ len ≤ maxLen) := by
  obtain ⟨fuel, hf⟩ := hd
  rcases okWide_bools hval with rfl | ⟨b, off, len, cap, rfl⟩
  · exact ⟨none, 0, 0, [], rfl, ⟨rfl, Or.inl rfl⟩, Nat.zero_le _⟩
  · rcases Go.Deep.open_slice1 Tryz.underlying35 boolCells hf with ⟨h0, _⟩ | ⟨a, len', cap', m, n, V, D, Pl, hcs, _, hlc, hcm, hm, _, hx⟩
    · simp [Value.cells] at h0
    · simp [Value.cells] at hcs
      obtain ⟨rfl, rfl, rfl⟩ := hcs
      have hlm : len ≤ m := by rw [hm]; split <;> omega
      obtain ⟨l, hl, hp⟩ := list_of (fun i (t : Bool) => W.cell? ⟨b, off + i, none⟩ = some (.bool t)) len (fun i hi => by
        obtain ⟨h1, h2⟩ := hx i (by omega)
        obtain ⟨t, ht, _⟩ := DataW.trod_bool Tryz.underlying4 h2
        injection ht with ht
        rw [ht, Addr.add_lit] at h1
        exact ⟨t, h1⟩)
      exact ⟨_, len, cap, l, rfl, ⟨hl, Or.inr ⟨b, off, rfl, hp⟩⟩, Nat.le_trans hlc hcm⟩
theorem open_ints {H : Type} {enc : TypeId × Value → H} {W : World} {base : Nat} {v : Value} {d : DataW H} {ps : List MemPlace} (hval : Value.okWide Tryz.prog W .any base 45 v)
    (hd : DataW.Trod enc Tryz.prog W 0 (fun _ => true) true 45 v d ps) : ∃ x len cap ns, v = .slice x len cap ∧ (NumsAt W x len ns ∧ len ≤ maxLen) := by
  obtain ⟨fuel, hf⟩ := hd
  rcases okWide_ints hval with rfl | ⟨b, off, len, cap, rfl⟩
  · exact ⟨none, 0, 0, [], rfl, ⟨rfl, (fun n hn => (by cases hn)), Or.inl rfl⟩, Nat.zero_le _⟩
  · rcases Go.Deep.open_slice1 Tryz.underlying45 intCells hf with ⟨h0, _⟩ | ⟨a, len', cap', m, n, V, D, Pl, hcs, _, hlc, hcm, hm, _, hx⟩
    · simp [Value.cells] at h0
    · simp [Value.cells] at hcs
      obtain ⟨rfl, rfl, rfl⟩ := hcs
      have hlm : len ≤ m := by rw [hm]; split <;> omega
      obtain ⟨l, hl, hp⟩ := list_of (fun i (k : Int) => W.cell? ⟨b, off + i, none⟩ = some (.int .i64 k) ∧ IntKind.i64.has k) len (fun i hi => by
        obtain ⟨h1, h2⟩ := hx i (by omega)
        obtain ⟨k, hk, _, hwf⟩ := DataW.trod_int Tryz.underlying3 h2
        injection hk with hk
        rw [hk, Addr.add_lit] at h1
        simp only [Lit.wf, Bool.and_eq_true, decide_eq_true_eq] at hwf
        exact ⟨k, h1, hwf⟩)
      refine ⟨_, len, cap, l, rfl, ⟨hl, fun k hk => ?_, Or.inr ⟨b, off, rfl, fun i hi => (hp i hi).1⟩⟩, Nat.le_trans hlc hcm⟩
      obtain ⟨i, hi, e⟩ := List.getElem_of_mem hk
      have := (hp i hi).2
      rw [e] at this
      exact this
end Go.Proofs.YtlpodahldpaniaaGreat.B
