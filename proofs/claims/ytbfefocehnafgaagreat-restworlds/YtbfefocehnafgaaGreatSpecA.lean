/- What a right log tells of its Txns, record by record: how far each is, which of its Writes stand, who has which cell. No Go in sight. The book's own test of a record is the document's. No Go in sight. -/
import Derived.Test.YtbfefocehnafgaaGreatLogA
import Derived.Test.YtbfefocehnafgaaGreatLogB
namespace Go.Proofs.YtbfefocehnafgaaGreat.B
set_option maxRecDepth 100000

theorem count_of_last (t c : Int) : ∀ l : List Rc, lastR l t = 0 → countR l t c = 0 := list_snoc _ (fun _ => rfl) fun l r ih h => by
  rw [lastR_snoc] at h
  rw [countR_snoc]
  cases hb : (r.txn == t)
  · rw [hb] at h; simp at h; simpa using ih h
  · rw [hb] at h; simp at h
theorem last_none (t : Int) : ∀ l : List Rc, lastR l t = 0 → ∀ r ∈ l, r.txn ≠ t := list_snoc _ (fun _ r hr => by cases hr) fun l r ih h x hx => by
  rw [lastR_snoc] at h
  cases hb : (r.txn == t)
  · rw [hb] at h
    simp at h
    rcases List.mem_append.1 hx with hx | hx
    · exact ih h x hx
    · simp at hx; subst hx; simpa using hb
  · rw [hb] at h; simp at h
theorem state_not4 {l : List Rc} {t : Int} (h : stateR l t ≠ 4) : countR l t 4 = 0 := by
  by_cases h0 : lastR l t = 0
  · exact count_of_last t 4 l h0
  · unfold stateR at h
    rw [if_neg h0] at h
    by_cases h4 : countR l t 4 > 0
    · rw [if_pos h4] at h; exact absurd rfl h
    · omega
theorem state_not2 {l : List Rc} {t : Int} (h4 : stateR l t ≠ 4) (h : stateR l t ≠ 2) : countR l t 2 = 0 := by
  have c4 := state_not4 h4
  by_cases h0 : lastR l t = 0
  · exact count_of_last t 2 l h0
  · unfold stateR at h
    rw [if_neg h0, if_neg (by omega)] at h
    by_cases h2 : countR l t 2 > 0
    · rw [if_pos h2] at h; exact absurd rfl h
    · omega
theorem state_not3 {l : List Rc} {t : Int} (h4 : stateR l t ≠ 4) (h2 : stateR l t ≠ 2) (h : stateR l t ≠ 3) : countR l t 3 = 0 := by
  have c4 := state_not4 h4
  have c2 := state_not2 h4 h2
  by_cases h0 : lastR l t = 0
  · exact count_of_last t 3 l h0
  · unfold stateR at h
    rw [if_neg h0, if_neg (by omega), if_neg (by omega)] at h
    by_cases h3 : countR l t 3 > 0
    · rw [if_pos h3] at h; exact absurd rfl h
    · omega
/-- What the first test of a record that may follow says. -/
theorem follows_ok {l : List Rc} {r : Rc} (h : followsR l r = true) : r.prev = (lastR l r.txn : Nat) ∧ stateR l r.txn ≠ 4 ∧ (stateR l r.txn = 2 → r.kind = 4) ∧ (stateR l r.txn = 3 → r.kind = 3 ∨ r.kind = 4) := by
  unfold followsR at h
  split at h
  · cases h
  · rename_i hb
    simp only [Bool.or_eq_true, Bool.and_eq_true, bne_iff_ne, beq_iff_eq, not_or, not_and] at hb
    obtain ⟨h1, h2, h3, h4⟩ := hb
    refine ⟨by simpa using h1, h2, fun e => by simpa using h3 e, fun e => ?_⟩
    by_cases k : r.kind = 3
    · exact Or.inl k
    · exact Or.inr (by simpa using h4 e k)
theorem stateR_snoc {l : List Rc} {r : Rc} (he : recErr (l.length + 1 : Nat) r = 0) (hf : followsR l r = true) (t : Int) : stateR (l ++ [r]) t = if r.txn = t then r.kind else stateR l t := by
  by_cases ht : r.txn = t
  · subst ht
    obtain ⟨_, s4, s2, s3⟩ := follows_ok hf
    have c4 := state_not4 s4
    rw [if_pos rfl]
    unfold stateR
    simp only [lastR_snoc, countR_snoc, beq_self_eq_true, Bool.true_and, if_true]
    rw [if_neg (by omega)]
    rcases recErr_kind he with k | k | k | k
    · have n2 : stateR l r.txn ≠ 2 := fun e => by have := s2 e; omega
      have n3 : stateR l r.txn ≠ 3 := fun e => by have := s3 e; omega
      have c2 := state_not2 s4 n2
      have c3 := state_not3 s4 n2 n3
      simp [k, c4, c2, c3]
    · simp [k, c4]
    · have n2 : stateR l r.txn ≠ 2 := fun e => by have := s2 e; omega
      have c2 := state_not2 s4 n2
      simp [k, c4, c2]
    · simp [k]
  · have hb : (r.txn == t) = false := by simpa using ht
    rw [if_neg ht]
    unfold stateR
    simp only [lastR_snoc, countR_snoc, hb, Bool.false_and, Bool.false_eq_true, if_false]

/-- The Writes of a Txn that stand, as records; none, if it is over. -/
def standRecs (l : List Rc) (t : Int) : List Rc := (standsR l t).filterMap fun n => l[n - 1]?
def standB (l : List Rc) (t : Int) : List Rc := if stateR l t = 4 then [] else standRecs l t
theorem writesR_rec (t : Int) : ∀ l : List Rc, ∀ n ∈ writesR l t, ∃ r, l[n - 1]? = some r ∧ r.txn = t ∧ r.kind = 1 := list_snoc _ (by intro n h; simp [writesR, foldI] at h) fun l r ih n hn => by
  have hm := writesR_mem t (l ++ [r]) n hn
  rw [writesR_snoc] at hn
  have old : n ∈ writesR l t → ∃ q, (l ++ [r])[n - 1]? = some q ∧ q.txn = t ∧ q.kind = 1 := fun hn => by
    obtain ⟨q, hq, h1, h2⟩ := ih n hn
    have := writesR_mem t l n hn
    exact ⟨q, by rw [List.getElem?_append_left (by omega)]; exact hq, h1, h2⟩
  split at hn
  · rename_i hb
    rw [List.mem_append] at hn
    rcases hn with hn | hn
    · exact old hn
    · simp at hn
      subst hn
      simp only [Bool.and_eq_true, beq_iff_eq] at hb
      exact ⟨r, by simp, hb.1, hb.2⟩
  · exact old hn
theorem standRecs_mem {l : List Rc} {t : Int} {r : Rc} (h : r ∈ standRecs l t) : r ∈ l ∧ r.txn = t ∧ r.kind = 1 := by
  unfold standRecs at h
  rw [List.mem_filterMap] at h
  obtain ⟨n, hn, hr⟩ := h
  obtain ⟨q, hq, h1, h2⟩ := writesR_rec t l n (List.mem_of_mem_take hn)
  rw [hr] at hq
  cases hq
  exact ⟨List.mem_of_getElem? hr, h1, h2⟩
theorem standB_mem {l : List Rc} {t : Int} {r : Rc} (h : r ∈ standB l t) : r ∈ l ∧ r.txn = t ∧ r.kind = 1 := by
  unfold standB at h
  split at h
  · cases h
  · exact standRecs_mem h
theorem filterMap_snoc_old (l : List Rc) (r : Rc) (ns : List Nat) (h : ∀ n ∈ ns, 1 ≤ n ∧ n ≤ l.length) : (ns.filterMap fun n => (l ++ [r])[n - 1]?) = ns.filterMap fun n => l[n - 1]? := by
  induction ns with
  | nil => rfl
  | cons n ns ih =>
    have hn := h n (by simp)
    have e : (l ++ [r])[n - 1]? = l[n - 1]? := List.getElem?_append_left (by omega)
    simp only [List.filterMap_cons, e, ih (fun m hm => h m (by simp [hm]))]
theorem standRecs_length (l : List Rc) (t : Int) : (standRecs l t).length = (standsR l t).length := by
  unfold standRecs
  have : ∀ ns : List Nat, (∀ n ∈ ns, ∃ r, l[n - 1]? = some r) → (ns.filterMap fun n => l[n - 1]?).length = ns.length := by
    intro ns
    induction ns with
    | nil => intro _; rfl
    | cons n ns ih =>
      intro h
      obtain ⟨r, hr⟩ := h n (by simp)
      simp only [List.filterMap_cons, hr, List.length_cons, ih (fun m hm => h m (by simp [hm]))]
  exact this _ fun n hn => let ⟨r, hr, _⟩ := writesR_rec t l n (List.mem_of_mem_take hn); ⟨r, hr⟩
theorem standRecs_other {l : List Rc} {r : Rc} {t : Int} (ht : r.txn ≠ t) : standRecs (l ++ [r]) t = standRecs l t := by
  have hb : (r.txn == t) = false := by simpa using ht
  have e : standsR (l ++ [r]) t = standsR l t := by unfold standsR; simp only [writesR_snoc, countR_snoc, hb, Bool.false_and, Bool.false_eq_true, if_false]
  unfold standRecs
  rw [e]
  exact filterMap_snoc_old l r _ fun n hn => standsR_mem hn
theorem standB_other {l : List Rc} {r : Rc} (he : recErr (l.length + 1 : Nat) r = 0) (hf : followsR l r = true) {t : Int} (ht : r.txn ≠ t) : standB (l ++ [r]) t = standB l t := by
  unfold standB
  rw [stateR_snoc he hf, if_neg ht, standRecs_other ht]
theorem standB_write {l : List Rc} {r : Rc} (he : recErr (l.length + 1 : Nat) r = 0) (hf : followsR l r = true) (k : r.kind = 1) : standB (l ++ [r]) r.txn = standB l r.txn ++ [r] := by
  obtain ⟨_, s4, s2, s3⟩ := follows_ok hf
  have n2 : stateR l r.txn ≠ 2 := fun e => by have := s2 e; omega
  have n3 : stateR l r.txn ≠ 3 := fun e => by have := s3 e; omega
  have c3 := state_not3 s4 n2 n3
  unfold standB
  rw [stateR_snoc he hf, if_pos rfl, if_neg (by omega), if_neg s4]
  unfold standRecs
  have e : standsR (l ++ [r]) r.txn = standsR l r.txn ++ [l.length + 1] := by
    unfold standsR
    simp only [writesR_snoc, countR_snoc, beq_self_eq_true, Bool.true_and, k, c3]
    simp
    exact List.take_of_length_le (by simp)
  rw [e, List.filterMap_append, filterMap_snoc_old l r _ fun n hn => standsR_mem hn]
  simp
theorem standB_commit {l : List Rc} {r : Rc} (he : recErr (l.length + 1 : Nat) r = 0) (hf : followsR l r = true) (k : r.kind = 2) : standB (l ++ [r]) r.txn = standB l r.txn := by
  obtain ⟨_, s4, _, _⟩ := follows_ok hf
  unfold standB
  rw [stateR_snoc he hf, if_pos rfl, if_neg (by omega), if_neg s4]
  unfold standRecs
  have e : standsR (l ++ [r]) r.txn = standsR l r.txn := by
    unfold standsR
    simp [writesR_snoc, countR_snoc, k]
  rw [e]
  exact filterMap_snoc_old l r _ fun n hn => standsR_mem hn
theorem standB_end {l : List Rc} {r : Rc} (he : recErr (l.length + 1 : Nat) r = 0) (hf : followsR l r = true) (k : r.kind = 4) : standB (l ++ [r]) r.txn = [] := by
  unfold standB
  rw [stateR_snoc he hf, if_pos rfl, if_pos k]
theorem standB_back {l : List Rc} {r : Rc} (hR : Right l) (he : recErr (l.length + 1 : Nat) r = 0) (hf : followsR l r = true) (k : r.kind = 3) : standB (l ++ [r]) r.txn = (standB l r.txn).dropLast := by
  obtain ⟨_, s4, _, _⟩ := follows_ok hf
  obtain ⟨n, w, hs, _⟩ := follows_back k hf
  have hne : standsR l r.txn ≠ [] := by intro e; rw [e] at hs; cases hs
  unfold standB
  rw [stateR_snoc he hf, if_pos rfl, if_neg (by omega), if_neg s4]
  unfold standRecs
  have hb := right_backs l hR r.txn
  have e : standsR (l ++ [r]) r.txn = (standsR l r.txn).dropLast := by
    unfold standsR
    simp only [writesR_snoc, countR_snoc, beq_self_eq_true, Bool.true_and, k]
    simp only [show ((3 : Int) == 1) = false from rfl, Bool.false_eq_true, if_false, if_true]
    have : 0 < (standsR l r.txn).length := List.length_pos_iff.2 hne
    unfold standsR at this
    rw [List.length_take] at this
    rw [List.dropLast_eq_take, List.length_take, List.take_take]
    congr 1
    omega
  rw [e, filterMap_snoc_old l r _ fun m hm => standsR_mem (List.dropLast_subset _ hm)]
  have hl := List.dropLast_concat_getLast hne
  obtain ⟨q, hq, _⟩ := writesR_rec r.txn l _ (List.mem_of_mem_take (List.getLast_mem hne))
  conv => rhs; rw [← hl, List.filterMap_append]
  simp [hq]

/-- By how many Writes that stand a Txn has a cell. -/
def heldBy (l : List Rc) (p : Int × Int) (t : Int) : Nat := ((standB l t).filter fun r => p.1 == r.page && p.2 == r.cell).length
end Go.Proofs.YtbfefocehnafgaaGreat.B
namespace Go.Proofs.YtbfefocehnafgaaGreat.B
set_option maxRecDepth 100000

theorem held_pos {l : List Rc} {p : Int × Int} {t : Int} : 0 < heldBy l p t ↔ ∃ r ∈ standB l t, r.page = p.1 ∧ r.cell = p.2 := by
  unfold heldBy
  rw [List.length_pos_iff_exists_mem]
  constructor
  · rintro ⟨r, hr⟩
    rw [List.mem_filter] at hr
    simp only [Bool.and_eq_true, beq_iff_eq] at hr
    exact ⟨r, hr.1, hr.2.1.symm, hr.2.2.symm⟩
  · rintro ⟨r, hr, h1, h2⟩
    exact ⟨r, List.mem_filter.2 ⟨hr, by simp [h1, h2]⟩⟩
theorem right_txn : ∀ l, Right l → ∀ r ∈ l, 1 ≤ r.txn ∧ r.txn ≤ 9 := right_ind _ (fun r hr => by cases hr) fun l r _ ih he _ x hx => by
  rcases List.mem_append.1 hx with hx | hx
  · exact ih x hx
  · simp at hx; subst hx; exact recErr_txn he
theorem hits_iff (l : List Rc) (t p c : Int) : (standsR l t).any (hitAt l p c) = true ↔ ∃ r ∈ standRecs l t, r.page = p ∧ r.cell = c := by
  rw [List.any_eq_true]
  unfold standRecs hitAt
  constructor
  · rintro ⟨n, hn, h⟩
    cases hl : l[n - 1]? with
    | none => rw [hl] at h; cases h
    | some r =>
      rw [hl] at h
      simp only [Bool.and_eq_true, beq_iff_eq] at h
      exact ⟨r, List.mem_filterMap.2 ⟨n, hn, hl⟩, h⟩
  · rintro ⟨r, hr, h1, h2⟩
    obtain ⟨n, hn, hl⟩ := List.mem_filterMap.1 hr
    exact ⟨n, hn, by rw [hl]; simp [h1, h2]⟩
theorem taken_iff {l : List Rc} (hR : Right l) (t p c : Int) : takenR l t p c = true ↔ ∃ u, u ≠ t ∧ 0 < heldBy l (p, c) u := by
  unfold takenR
  rw [List.any_eq_true]
  constructor
  · rintro ⟨j, _, h⟩
    rw [takenAt_eq] at h
    simp only [Bool.and_eq_true, bne_iff_ne] at h
    obtain ⟨h1, h2, h3⟩ := h
    refine ⟨((j + 1 : Nat) : Int), h1, held_pos.2 ?_⟩
    obtain ⟨r, hr, hp⟩ := (hits_iff _ _ _ _).1 h3
    exact ⟨r, by unfold standB; rw [if_neg h2]; exact hr, hp⟩
  · rintro ⟨u, hu, h⟩
    obtain ⟨r, hr, hp⟩ := held_pos.1 h
    obtain ⟨hl, htx, _⟩ := standB_mem hr
    have hb := right_txn l hR r hl
    rw [htx] at hb
    refine ⟨(u - 1).toNat, List.mem_range.2 (by omega), ?_⟩
    have e : (((u - 1).toNat + 1 : Nat) : Int) = u := by omega
    rw [e, takenAt_eq]
    unfold standB at hr
    split at hr
    · cases hr
    · rename_i h4
      simp only [Bool.and_eq_true, bne_iff_ne]
      exact ⟨hu, h4, (hits_iff _ _ _ _).2 ⟨r, hr, hp⟩⟩

/-- May a record of that kind come behind those that the Txn has? -/
def allowsB (s : Int) (n : Nat) (k : Int) : Bool := if k = 1 ∨ k = 2 then s == 0 || s == 1 else if k = 3 then decide (0 < n) && s != 2 else if k = 4 then s == 2 || (s == 3 && n == 0) else false
/-- The record that takes back the last Write that stands. -/
def backB (last : Int) (st : List Rc) : Rc := match st.getLast? with | none => ⟨0, 0, 0, 0, 0, 0, 0, 0⟩ | some w => ⟨3, w.txn, last, w.page, w.cell, w.new, w.old, w.prev⟩
def clashB (l : List Rc) (r : Rc) (h : Int × Int) : Bool := r.old != (pagesR l).getD (r.page.toNat * 4 + r.cell.toNat) 0 || (decide (0 < h.2) && h.1 != r.txn)
def mayNotB (l : List Rc) (r : Rc) (h : Int × Int) : Bool :=
  r.prev != (lastR l r.txn : Nat) || (!allowsB (stateR l r.txn) (standB l r.txn).length r.kind || ((r.kind == 1 && clashB l r h) || (r.kind == 3 && !eqRc r (backB (lastR l r.txn : Nat) (standB l r.txn)))))
/-- Who has a cell, as the book tells it. -/
def HoldOk (l : List Rc) (p : Int × Int) (h : Int × Int) : Prop := (0 < h.2 → 0 < heldBy l p h.1) ∧ (∀ t, 0 < heldBy l p t → 0 < h.2 ∧ h.1 = t)
theorem stateR_range (l : List Rc) (t : Int) : stateR l t = 0 ∨ stateR l t = 1 ∨ stateR l t = 2 ∨ stateR l t = 3 ∨ stateR l t = 4 := by
  unfold stateR; split
  · simp
  · split
    · simp
    · split
      · simp
      · split <;> simp
theorem stand_of_4 {l : List Rc} {t : Int} (h : stateR l t = 4) : standB l t = [] := by unfold standB; rw [if_pos h]
theorem stand_of_n4 {l : List Rc} {t : Int} (h : stateR l t ≠ 4) : standB l t = standRecs l t := by unfold standB; rw [if_neg h]
theorem standRecs_last (l : List Rc) (t : Int) : (standRecs l t).getLast? = (standsR l t).getLast?.bind fun n => l[n - 1]? := by
  rcases List.eq_nil_or_concat (standsR l t) with h | ⟨ms, n, h⟩
  · unfold standRecs; rw [h]; rfl
  · rw [List.concat_eq_append] at h
    obtain ⟨r, hr, _⟩ := writesR_rec t l n (List.mem_of_mem_take (show n ∈ standsR l t by rw [h]; simp))
    unfold standRecs
    rw [h, List.filterMap_append]
    simp [hr]
theorem follows_state0 {l : List Rc} {t : Int} : lastR l t = 0 → stateR l t = 0 := stateR_0
theorem back_case {l : List Rc} {txn prev page cell old new next : Int} {c : Bool} (h4 : stateR l txn ≠ 4) (hb : followsBad l ⟨3, txn, prev, page, cell, old, new, next⟩ = false) (h2 : stateR l txn ≠ 2) (hp : prev = (lastR l txn : Nat)) :
    (!allowsB (stateR l txn) (standB l txn).length 3 || (((3 : Int) == 1 && c) || ((3 : Int) == 3 && !eqRc ⟨3, txn, prev, page, cell, old, new, next⟩ (backB (lastR l txn : Nat) (standB l txn))))) = !followsR l ⟨3, txn, prev, page, cell, old, new, next⟩ := by
  rw [follows_3 hb, stand_of_n4 h4]
  unfold backB
  rw [standRecs_last, standRecs_length]
  rcases List.eq_nil_or_concat (standsR l txn) with h | ⟨ms, n, h⟩
  · rw [h]; simp [allowsB]
  · rw [List.concat_eq_append] at h
    obtain ⟨w, hw, ht, hk⟩ := writesR_rec txn l n (List.mem_of_mem_take (show n ∈ standsR l txn by rw [h]; simp))
    have ha : allowsB (stateR l txn) (standsR l txn).length 3 = true := by rw [h]; simp [allowsB, h2]
    rw [ha, h]
    simp only [List.getLast?_append, List.getLast?_singleton, Option.some_or, Option.bind_some, hw]
    simp only [eqRc, ht, hp, beq_self_eq_true, Bool.true_and, Bool.not_true, Bool.false_or, show ((3 : Int) == 1) = false from rfl, Bool.false_and]
theorem mayNot_eq {l : List Rc} (hR : Right l) {r : Rc} (he : recErr (l.length + 1 : Nat) r = 0) {h : Int × Int} (hh : HoldOk l (r.page, r.cell) h) : mayNotB l r h = !followsR l r := by
  obtain ⟨kind, txn, prev, page, cell, old, new, next⟩ := r
  have hk := recErr_kind he
  dsimp only at hk hh
  unfold mayNotB
  dsimp only
  rcases beq_or (prev != (lastR l txn : Nat)) with hp | hp
  · rw [hp, Bool.true_or, follows_bad (by unfold followsBad; dsimp only; rw [hp]; rfl)]; rfl
  rw [hp, Bool.false_or]
  have tk : (decide (0 < h.2) && h.1 != txn) = takenR l txn page cell := by
    rw [Bool.eq_iff_iff, taken_iff hR]
    simp only [Bool.and_eq_true, decide_eq_true_eq, bne_iff_ne]
    constructor
    · rintro ⟨h1, h2⟩
      exact ⟨h.1, h2, hh.1 h1⟩
    · rintro ⟨u, hu, hp⟩
      obtain ⟨h1, h2⟩ := hh.2 u hp
      exact ⟨h1, by rw [h2]; exact hu⟩
  have lenB : stateR l txn ≠ 4 → (standB l txn).length = (standsR l txn).length := fun h4 => by rw [stand_of_n4 h4, standRecs_length]
  rcases hk with rfl | rfl | rfl | rfl
  · have hcl : clashB l ⟨1, txn, prev, page, cell, old, new, next⟩ h = (old != (pagesR l).getD (page.toNat * 4 + cell.toNat) 0 || takenR l txn page cell) := by
      unfold clashB; dsimp only; rw [tk]
    generalize hpg : (pagesR l).getD (page.toNat * 4 + cell.toNat) 0 = pg at hcl
    rcases stateR_range l txn with hs | hs | hs | hs | hs
    · rw [follows_1 (by unfold followsBad; dsimp only; rw [hp, hs]; rfl), hs, hcl, hpg, show allowsB 0 (standB l txn).length 1 = true from rfl]
      show (false || ((true && (old != pg || takenR l txn page cell)) || (false && _))) = _
      simp only [Bool.false_or, Bool.true_and, Bool.false_and, Bool.or_false, bne]
      cases (old == pg) <;> cases takenR l txn page cell <;> rfl
    · rw [follows_1 (by unfold followsBad; dsimp only; rw [hp, hs]; rfl), hs, hcl, hpg, show allowsB 1 (standB l txn).length 1 = true from rfl]
      show (false || ((true && (old != pg || takenR l txn page cell)) || (false && _))) = _
      simp only [Bool.false_or, Bool.true_and, Bool.false_and, Bool.or_false, bne]
      cases (old == pg) <;> cases takenR l txn page cell <;> rfl
    · rw [follows_bad (by unfold followsBad; dsimp only; rw [hp, hs]; rfl), hs]
      rfl
    · rw [follows_bad (by unfold followsBad; dsimp only; rw [hp, hs]; rfl), hs]
      rfl
    · rw [follows_bad (by unfold followsBad; dsimp only; rw [hp, hs]; rfl), hs]
      rfl
  · rcases stateR_range l txn with hs | hs | hs | hs | hs
    · rw [follows_2 (by unfold followsBad; dsimp only; rw [hp, hs]; rfl), hs]
      rfl
    · rw [follows_2 (by unfold followsBad; dsimp only; rw [hp, hs]; rfl), hs]
      rfl
    · rw [follows_bad (by unfold followsBad; dsimp only; rw [hp, hs]; rfl), hs]
      rfl
    · rw [follows_bad (by unfold followsBad; dsimp only; rw [hp, hs]; rfl), hs]
      rfl
    · rw [follows_bad (by unfold followsBad; dsimp only; rw [hp, hs]; rfl), hs]
      rfl
  · rcases stateR_range l txn with hs | hs | hs | hs | hs
    · exact back_case (by rw [hs]; decide) (by unfold followsBad; dsimp only; rw [hp, hs]; rfl) (by rw [hs]; decide) (by simpa using hp)
    · exact back_case (by rw [hs]; decide) (by unfold followsBad; dsimp only; rw [hp, hs]; rfl) (by rw [hs]; decide) (by simpa using hp)
    · rw [follows_bad (by unfold followsBad; dsimp only; rw [hp, hs]; rfl), hs]
      have e : allowsB 2 (standB l txn).length 3 = false := by simp [allowsB]
      rw [e]; rfl
    · exact back_case (by rw [hs]; decide) (by unfold followsBad; dsimp only; rw [hp, hs]; rfl) (by rw [hs]; decide) (by simpa using hp)
    · rw [follows_bad (by unfold followsBad; dsimp only; rw [hp, hs]; rfl), hs, stand_of_4 hs]
      rfl
  · rcases stateR_range l txn with hs | hs | hs | hs | hs
    · rw [follows_4 (by unfold followsBad; dsimp only; rw [hp, hs]; rfl), hs]
      simp [allowsB]
    · rw [follows_4 (by unfold followsBad; dsimp only; rw [hp, hs]; rfl), hs]
      simp [allowsB]
    · rw [follows_4 (by unfold followsBad; dsimp only; rw [hp, hs]; rfl), hs]
      simp [allowsB]
    · rw [follows_4 (by unfold followsBad; dsimp only; rw [hp, hs]; rfl), lenB (by omega), hs]
      cases standsR l txn <;> simp [allowsB]
    · rw [follows_bad (by unfold followsBad; dsimp only; rw [hp, hs]; rfl), hs]
      simp [allowsB]
end Go.Proofs.YtbfefocehnafgaaGreat.B
