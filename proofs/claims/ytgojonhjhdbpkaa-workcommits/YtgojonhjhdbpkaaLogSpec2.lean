/- Right logs, record by record: what holds of each, by induction from the front. No Go in sight. -/
import Derived.Test.YtgojonhjhdbpkaaLog3
namespace Go.Proofs.Ytgojonhjhdbpkaa.B
set_option maxRecDepth 100000

/-- A right log, whatever its length. -/
def Right (l : List Rc) : Prop := errTo l l.length = 0
theorem errTo_append (l m : List Rc) : ∀ k, k ≤ l.length → errTo (l ++ m) k = errTo l k := by
  intro k
  induction k with
  | zero => intro _; rfl
  | succ k ih =>
    intro h
    have ih := ih (by omega)
    simp only [errTo, ih]
    rw [List.getElem?_append_left (by omega), List.take_append_of_le_length (by omega)]
theorem errTo_take (l : List Rc) (k : Nat) (h : k ≤ l.length) : errTo l k = errTo (l.take k) (l.take k).length := by
  have e : l.take k ++ l.drop k = l := List.take_append_drop k l
  have hk : (l.take k).length = k := List.length_take_of_le h
  rw [hk, ← errTo_append (l.take k) (l.drop k) k (by omega), e]
theorem right_take {l : List Rc} {k : Nat} (h : k ≤ l.length) : errTo l k = 0 ↔ Right (l.take k) := by
  unfold Right; rw [← errTo_take l k h]
theorem stepErr_zero (l : List Rc) (r : Rc) : stepErr l r = 0 ↔ recErr (l.length + 1 : Nat) r = 0 ∧ followsR l r = true := by
  unfold stepErr
  generalize ((l.length + 1 : Nat) : Int) = n
  by_cases h : recErr n r = 0
  · rw [h]
    cases followsR l r <;> simp
  · have hb : (recErr n r != 0) = true := by simpa using h
    rw [hb]
    simp [h]
theorem errTo_succ (l : List Rc) (k : Nat) (h : k < l.length) : errTo l (k + 1) = if errTo l k != 0 then errTo l k else stepErr (l.take k) l[k] := by
  simp only [errTo, List.getElem?_eq_getElem h]
theorem errTo_keep (l : List Rc) (j : Nat) (h : errTo l j ≠ 0) : ∀ i, errTo l (j + i) = errTo l j := by
  intro i
  induction i with
  | zero => rfl
  | succ i ih =>
    have hb : (errTo l (j + i) != 0) = true := by rw [ih]; simpa using h
    show errTo l (j + i + 1) = _
    simp only [errTo, hb, if_true]
    exact ih
theorem right_snoc (l : List Rc) (r : Rc) : Right (l ++ [r]) ↔ Right l ∧ recErr (l.length + 1 : Nat) r = 0 ∧ followsR l r = true := by
  unfold Right
  rw [List.length_append, List.length_singleton, errTo_succ _ _ (by simp), errTo_append l [r] _ (Nat.le_refl _), ← stepErr_zero]
  simp only [List.take_left', List.getElem_concat_length]
  by_cases h : errTo l l.length = 0
  · rw [h]; simp
  · have hb : (errTo l l.length != 0) = true := by simpa using h
    rw [hb]; simp [h]
theorem right_nil : Right [] := rfl
theorem right_ind (P : List Rc → Prop) (h0 : P []) (hs : ∀ l r, Right l → P l → recErr (l.length + 1 : Nat) r = 0 → followsR l r = true → P (l ++ [r])) : ∀ l, Right l → P l := by
  refine list_snoc _ (fun _ => h0) ?_
  intro l r ih h
  rw [right_snoc] at h
  exact hs l r h.1 (ih h.1) h.2.1 h.2.2

theorem recErr_zero' (n : Int) (r : Rc) : recErr n r = 0 ↔ (out 1 60 [n] = false ∧ out 1 4 [r.kind] = false ∧ outOf n r = false ∧ tooMuch r = false) := by
  unfold recErr
  cases out 1 60 [n] <;> cases out 1 4 [r.kind] <;> cases outOf n r <;> cases tooMuch r <;> simp
theorem recErr_kind {n : Int} {r : Rc} (h : recErr n r = 0) : r.kind = 1 ∨ r.kind = 2 ∨ r.kind = 3 ∨ r.kind = 4 := by
  have h2 := ((recErr_zero' n r).1 h).2.1
  have := out1_false h2
  omega
theorem recErr_txn {n : Int} {r : Rc} (h : recErr n r = 0) : 1 ≤ r.txn ∧ r.txn ≤ 9 := by
  have h3 := ((recErr_zero' n r).1 h).2.2.1
  unfold outOf at h3
  simp only [Bool.or_eq_false_iff] at h3
  exact out1_false h3.1
theorem recErr_fits {n : Int} {r : Rc} (h : recErr n r = 0) (ht : turns r = true) : 0 ≤ r.page ∧ r.page ≤ 2 ∧ 0 ≤ r.cell ∧ r.cell ≤ 2 := by
  have h3 := ((recErr_zero' n r).1 h).2.2.1
  unfold outOf at h3
  simp only [Bool.or_eq_false_iff] at h3
  have hc := h3.2.2.1
  rw [ht, Bool.true_and] at hc
  unfold cellOut at hc
  simp only [Bool.or_eq_false_iff] at hc
  have a := out1_false hc.1
  have b := out1_false hc.2.1
  omega
theorem recErr_vals {n : Int} {r : Rc} (h : recErr n r = 0) (ht : turns r = true) : 0 ≤ r.old ∧ r.old ≤ 99 ∧ 0 ≤ r.new ∧ r.new ≤ 99 := by
  have h3 := ((recErr_zero' n r).1 h).2.2.1
  unfold outOf at h3
  simp only [Bool.or_eq_false_iff] at h3
  have hc := h3.2.2.1
  rw [ht, Bool.true_and] at hc
  unfold cellOut at hc
  simp only [Bool.or_eq_false_iff] at hc
  have a := hc.2.2
  simp [out] at a
  omega
theorem recErr_num {n : Int} {r : Rc} (h : recErr n r = 0) : 1 ≤ n ∧ n ≤ 60 := out1_false ((recErr_zero' n r).1 h).1
theorem turns_of {r : Rc} : turns r = true ↔ r.kind = 1 ∨ r.kind = 3 := by simp [turns]
theorem right_fits : ∀ l, Right l → Fits l := right_ind _ (fun r hr => by cases hr) fun l r _ ih he _ x hx ht => by
  rcases List.mem_append.1 hx with hx | hx
  · exact ih x hx ht
  · simp at hx; subst hx; exact recErr_fits he ht
theorem right_len : ∀ l, Right l → l.length ≤ 60 := right_ind _ (by simp) fun l r _ _ he _ => by
  have := (recErr_num he).2
  simp only [List.length_append, List.length_singleton]; omega
/-- A Back that may follow has a Write that stands. -/
theorem follows_back {l : List Rc} {r : Rc} (hk : r.kind = 3) (h : followsR l r = true) : ∃ n w, (standsR l r.txn).getLast? = some n ∧ l[n - 1]? = some w ∧ r.page = w.page ∧ r.cell = w.cell ∧ r.old = w.new ∧ r.new = w.old ∧ r.next = w.prev := by
  unfold followsR at h
  split at h
  · cases h
  · rw [hk] at h
    simp only [show ((3 : Int) == 1) = false from rfl, show ((3 : Int) == 2) = false from rfl, show ((3 : Int) == 3) = true from rfl, Bool.false_eq_true, if_false, if_true] at h
    cases hs : (standsR l r.txn).getLast? with
    | none => rw [hs] at h; cases h
    | some n =>
      rw [hs] at h
      dsimp only at h
      cases hw : l[n - 1]? with
      | none => rw [hw] at h; cases h
      | some w =>
        rw [hw] at h
        simp only [Bool.and_eq_true, beq_iff_eq] at h
        exact ⟨n, w, rfl, hw, h⟩
theorem right_backs : ∀ l, Right l → Backs l := right_ind _ (fun t => Nat.le_refl _) fun l r _ ih he hf t => by
  rw [countR_snoc, writesR_snoc]
  have iht := ih t
  by_cases ht : r.txn = t
  · subst ht
    rcases recErr_kind he with hk | hk | hk | hk
    · simp [hk]; omega
    · simp [hk]; omega
    · obtain ⟨n, w, hs, _⟩ := follows_back hk hf
      have hne : standsR l r.txn ≠ [] := by intro e; rw [e] at hs; cases hs
      have hlen : 0 < (standsR l r.txn).length := List.length_pos_iff.2 hne
      unfold standsR at hlen
      rw [List.length_take] at hlen
      simp [hk]; omega
    · simp [hk]; omega
  · have hb : (r.txn == t) = false := by simpa using ht
    simp [hb]; omega
end Go.Proofs.Ytgojonhjhdbpkaa.B
