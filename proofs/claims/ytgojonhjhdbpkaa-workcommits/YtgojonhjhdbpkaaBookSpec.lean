/- What a right log tells of its Txns, record by record: how far each is, which of its Writes stand, who has which cell. No Go in sight. -/
import Derived.Test.YtgojonhjhdbpkaaLogSpec2
namespace Go.Proofs.Ytgojonhjhdbpkaa.B
set_option maxRecDepth 100000

theorem count_of_last (t c : Int) : ∀ l : List Rc, lastR l t = 0 → countR l t c = 0 := list_snoc _ (fun _ => rfl) fun l r ih h => by
  rw [lastR_snoc] at h
  rw [countR_snoc]
  cases hb : (r.txn == t)
  · rw [hb] at h; simp at h; simpa using ih h
  · rw [hb] at h; simp at h
theorem last_none (t : Int) : ∀ l : List Rc, lastR l t = 0 → ∀ r ∈ l, r.txn ≠ t := list_snoc _ (fun _ r hr => by cases hr) fun l r ih h x hx => by
  rw [lastR_snoc] at h
  cases hb : (r.txn == t)
  · rw [hb] at h
    simp at h
    rcases List.mem_append.1 hx with hx | hx
    · exact ih h x hx
    · simp at hx; subst hx; simpa using hb
  · rw [hb] at h; simp at h
theorem state_not4 {l : List Rc} {t : Int} (h : stateR l t ≠ 4) : countR l t 4 = 0 := by
  by_cases h0 : lastR l t = 0
  · exact count_of_last t 4 l h0
  · unfold stateR at h
    rw [if_neg h0] at h
    by_cases h4 : countR l t 4 > 0
    · rw [if_pos h4] at h; exact absurd rfl h
    · omega
theorem state_not2 {l : List Rc} {t : Int} (h4 : stateR l t ≠ 4) (h : stateR l t ≠ 2) : countR l t 2 = 0 := by
  have c4 := state_not4 h4
  by_cases h0 : lastR l t = 0
  · exact count_of_last t 2 l h0
  · unfold stateR at h
    rw [if_neg h0, if_neg (by omega)] at h
    by_cases h2 : countR l t 2 > 0
    · rw [if_pos h2] at h; exact absurd rfl h
    · omega
theorem state_not3 {l : List Rc} {t : Int} (h4 : stateR l t ≠ 4) (h2 : stateR l t ≠ 2) (h : stateR l t ≠ 3) : countR l t 3 = 0 := by
  have c4 := state_not4 h4
  have c2 := state_not2 h4 h2
  by_cases h0 : lastR l t = 0
  · exact count_of_last t 3 l h0
  · unfold stateR at h
    rw [if_neg h0, if_neg (by omega), if_neg (by omega)] at h
    by_cases h3 : countR l t 3 > 0
    · rw [if_pos h3] at h; exact absurd rfl h
    · omega
/-- What the first test of a record that may follow says. -/
theorem follows_ok {l : List Rc} {r : Rc} (h : followsR l r = true) : r.prev = (lastR l r.txn : Nat) ∧ stateR l r.txn ≠ 4 ∧ (stateR l r.txn = 2 → r.kind = 4) ∧ (stateR l r.txn = 3 → r.kind = 3 ∨ r.kind = 4) := by
  unfold followsR at h
  split at h
  · cases h
  · rename_i hb
    simp only [Bool.or_eq_true, Bool.and_eq_true, bne_iff_ne, beq_iff_eq, not_or, not_and] at hb
    obtain ⟨h1, h2, h3, h4⟩ := hb
    refine ⟨by simpa using h1, h2, fun e => by simpa using h3 e, fun e => ?_⟩
    by_cases k : r.kind = 3
    · exact Or.inl k
    · exact Or.inr (by simpa using h4 e k)
theorem stateR_snoc {l : List Rc} {r : Rc} (he : recErr (l.length + 1 : Nat) r = 0) (hf : followsR l r = true) (t : Int) : stateR (l ++ [r]) t = if r.txn = t then r.kind else stateR l t := by
  by_cases ht : r.txn = t
  · subst ht
    obtain ⟨_, s4, s2, s3⟩ := follows_ok hf
    have c4 := state_not4 s4
    rw [if_pos rfl]
    unfold stateR
    simp only [lastR_snoc, countR_snoc, beq_self_eq_true, Bool.true_and, if_true]
    rw [if_neg (by omega)]
    rcases recErr_kind he with k | k | k | k
    · have n2 : stateR l r.txn ≠ 2 := fun e => by have := s2 e; omega
      have n3 : stateR l r.txn ≠ 3 := fun e => by have := s3 e; omega
      have c2 := state_not2 s4 n2
      have c3 := state_not3 s4 n2 n3
      simp [k, c4, c2, c3]
    · simp [k, c4]
    · have n2 : stateR l r.txn ≠ 2 := fun e => by have := s2 e; omega
      have c2 := state_not2 s4 n2
      simp [k, c4, c2]
    · simp [k]
  · have hb : (r.txn == t) = false := by simpa using ht
    rw [if_neg ht]
    unfold stateR
    simp only [lastR_snoc, countR_snoc, hb, Bool.false_and, Bool.false_eq_true, if_false]

/-- The Writes of a Txn that stand, as records; none, if it is over. -/
def standRecs (l : List Rc) (t : Int) : List Rc := (standsR l t).filterMap fun n => l[n - 1]?
def standB (l : List Rc) (t : Int) : List Rc := if stateR l t = 4 then [] else standRecs l t
theorem writesR_rec (t : Int) : ∀ l : List Rc, ∀ n ∈ writesR l t, ∃ r, l[n - 1]? = some r ∧ r.txn = t ∧ r.kind = 1 := list_snoc _ (by intro n h; simp [writesR, foldI] at h) fun l r ih n hn => by
  have hm := writesR_mem t (l ++ [r]) n hn
  rw [writesR_snoc] at hn
  have old : n ∈ writesR l t → ∃ q, (l ++ [r])[n - 1]? = some q ∧ q.txn = t ∧ q.kind = 1 := fun hn => by
    obtain ⟨q, hq, h1, h2⟩ := ih n hn
    have := writesR_mem t l n hn
    exact ⟨q, by rw [List.getElem?_append_left (by omega)]; exact hq, h1, h2⟩
  split at hn
  · rename_i hb
    rw [List.mem_append] at hn
    rcases hn with hn | hn
    · exact old hn
    · simp at hn
      subst hn
      simp only [Bool.and_eq_true, beq_iff_eq] at hb
      exact ⟨r, by simp, hb.1, hb.2⟩
  · exact old hn
theorem standRecs_mem {l : List Rc} {t : Int} {r : Rc} (h : r ∈ standRecs l t) : r ∈ l ∧ r.txn = t ∧ r.kind = 1 := by
  unfold standRecs at h
  rw [List.mem_filterMap] at h
  obtain ⟨n, hn, hr⟩ := h
  obtain ⟨q, hq, h1, h2⟩ := writesR_rec t l n (List.mem_of_mem_take hn)
  rw [hr] at hq
  cases hq
  exact ⟨List.mem_of_getElem? hr, h1, h2⟩
theorem standB_mem {l : List Rc} {t : Int} {r : Rc} (h : r ∈ standB l t) : r ∈ l ∧ r.txn = t ∧ r.kind = 1 := by
  unfold standB at h
  split at h
  · cases h
  · exact standRecs_mem h
theorem filterMap_snoc_old (l : List Rc) (r : Rc) (ns : List Nat) (h : ∀ n ∈ ns, 1 ≤ n ∧ n ≤ l.length) : (ns.filterMap fun n => (l ++ [r])[n - 1]?) = ns.filterMap fun n => l[n - 1]? := by
  induction ns with
  | nil => rfl
  | cons n ns ih =>
    have hn := h n (by simp)
    have e : (l ++ [r])[n - 1]? = l[n - 1]? := List.getElem?_append_left (by omega)
    simp only [List.filterMap_cons, e, ih (fun m hm => h m (by simp [hm]))]
theorem standRecs_length (l : List Rc) (t : Int) : (standRecs l t).length = (standsR l t).length := by
  unfold standRecs
  have : ∀ ns : List Nat, (∀ n ∈ ns, ∃ r, l[n - 1]? = some r) → (ns.filterMap fun n => l[n - 1]?).length = ns.length := by
    intro ns
    induction ns with
    | nil => intro _; rfl
    | cons n ns ih =>
      intro h
      obtain ⟨r, hr⟩ := h n (by simp)
      simp only [List.filterMap_cons, hr, List.length_cons, ih (fun m hm => h m (by simp [hm]))]
  exact this _ fun n hn => let ⟨r, hr, _⟩ := writesR_rec t l n (List.mem_of_mem_take hn); ⟨r, hr⟩
theorem standRecs_other {l : List Rc} {r : Rc} {t : Int} (ht : r.txn ≠ t) : standRecs (l ++ [r]) t = standRecs l t := by
  have hb : (r.txn == t) = false := by simpa using ht
  have e : standsR (l ++ [r]) t = standsR l t := by unfold standsR; simp only [writesR_snoc, countR_snoc, hb, Bool.false_and, Bool.false_eq_true, if_false]
  unfold standRecs
  rw [e]
  exact filterMap_snoc_old l r _ fun n hn => standsR_mem hn
theorem standB_other {l : List Rc} {r : Rc} (he : recErr (l.length + 1 : Nat) r = 0) (hf : followsR l r = true) {t : Int} (ht : r.txn ≠ t) : standB (l ++ [r]) t = standB l t := by
  unfold standB
  rw [stateR_snoc he hf, if_neg ht, standRecs_other ht]
theorem standB_write {l : List Rc} {r : Rc} (he : recErr (l.length + 1 : Nat) r = 0) (hf : followsR l r = true) (k : r.kind = 1) : standB (l ++ [r]) r.txn = standB l r.txn ++ [r] := by
  obtain ⟨_, s4, s2, s3⟩ := follows_ok hf
  have n2 : stateR l r.txn ≠ 2 := fun e => by have := s2 e; omega
  have n3 : stateR l r.txn ≠ 3 := fun e => by have := s3 e; omega
  have c3 := state_not3 s4 n2 n3
  unfold standB
  rw [stateR_snoc he hf, if_pos rfl, if_neg (by omega), if_neg s4]
  unfold standRecs
  have e : standsR (l ++ [r]) r.txn = standsR l r.txn ++ [l.length + 1] := by
    unfold standsR
    simp only [writesR_snoc, countR_snoc, beq_self_eq_true, Bool.true_and, k, c3]
    simp
    exact List.take_of_length_le (by simp)
  rw [e, List.filterMap_append, filterMap_snoc_old l r _ fun n hn => standsR_mem hn]
  simp
theorem standB_commit {l : List Rc} {r : Rc} (he : recErr (l.length + 1 : Nat) r = 0) (hf : followsR l r = true) (k : r.kind = 2) : standB (l ++ [r]) r.txn = standB l r.txn := by
  obtain ⟨_, s4, _, _⟩ := follows_ok hf
  unfold standB
  rw [stateR_snoc he hf, if_pos rfl, if_neg (by omega), if_neg s4]
  unfold standRecs
  have e : standsR (l ++ [r]) r.txn = standsR l r.txn := by
    unfold standsR
    simp [writesR_snoc, countR_snoc, k]
  rw [e]
  exact filterMap_snoc_old l r _ fun n hn => standsR_mem hn
theorem standB_end {l : List Rc} {r : Rc} (he : recErr (l.length + 1 : Nat) r = 0) (hf : followsR l r = true) (k : r.kind = 4) : standB (l ++ [r]) r.txn = [] := by
  unfold standB
  rw [stateR_snoc he hf, if_pos rfl, if_pos k]
theorem standB_back {l : List Rc} {r : Rc} (hR : Right l) (he : recErr (l.length + 1 : Nat) r = 0) (hf : followsR l r = true) (k : r.kind = 3) : standB (l ++ [r]) r.txn = (standB l r.txn).dropLast := by
  obtain ⟨_, s4, _, _⟩ := follows_ok hf
  obtain ⟨n, w, hs, _⟩ := follows_back k hf
  have hne : standsR l r.txn ≠ [] := by intro e; rw [e] at hs; cases hs
  unfold standB
  rw [stateR_snoc he hf, if_pos rfl, if_neg (by omega), if_neg s4]
  unfold standRecs
  have hb := right_backs l hR r.txn
  have e : standsR (l ++ [r]) r.txn = (standsR l r.txn).dropLast := by
    unfold standsR
    simp only [writesR_snoc, countR_snoc, beq_self_eq_true, Bool.true_and, k]
    simp only [show ((3 : Int) == 1) = false from rfl, Bool.false_eq_true, if_false, if_true]
    have : 0 < (standsR l r.txn).length := List.length_pos_iff.2 hne
    unfold standsR at this
    rw [List.length_take] at this
    rw [List.dropLast_eq_take, List.length_take, List.take_take]
    congr 1
    omega
  rw [e, filterMap_snoc_old l r _ fun m hm => standsR_mem (List.dropLast_subset _ hm)]
  have hl := List.dropLast_concat_getLast hne
  obtain ⟨q, hq, _⟩ := writesR_rec r.txn l _ (List.mem_of_mem_take (List.getLast_mem hne))
  conv => rhs; rw [← hl, List.filterMap_append]
  simp [hq]

/-- By how many Writes that stand a Txn has a cell. -/
def heldBy (l : List Rc) (p : Int × Int) (t : Int) : Nat := ((standB l t).filter fun r => p.1 == r.page && p.2 == r.cell).length
end Go.Proofs.Ytgojonhjhdbpkaa.B
