/- The book's own test of a record is the document's. No Go in sight. -/
import Derived.Test.YtgojonhjhdbpkaaBookSpec
import Derived.Test.YtgojonhjhdbpkaaLog7
namespace Go.Proofs.Ytgojonhjhdbpkaa.B
set_option maxRecDepth 100000

theorem held_pos {l : List Rc} {p : Int × Int} {t : Int} : 0 < heldBy l p t ↔ ∃ r ∈ standB l t, r.page = p.1 ∧ r.cell = p.2 := by
  unfold heldBy
  rw [List.length_pos_iff_exists_mem]
  constructor
  · rintro ⟨r, hr⟩
    rw [List.mem_filter] at hr
    simp only [Bool.and_eq_true, beq_iff_eq] at hr
    exact ⟨r, hr.1, hr.2.1.symm, hr.2.2.symm⟩
  · rintro ⟨r, hr, h1, h2⟩
    exact ⟨r, List.mem_filter.2 ⟨hr, by simp [h1, h2]⟩⟩
theorem right_txn : ∀ l, Right l → ∀ r ∈ l, 1 ≤ r.txn ∧ r.txn ≤ 9 := right_ind _ (fun r hr => by cases hr) fun l r _ ih he _ x hx => by
  rcases List.mem_append.1 hx with hx | hx
  · exact ih x hx
  · simp at hx; subst hx; exact recErr_txn he
theorem hits_iff (l : List Rc) (t p c : Int) : (standsR l t).any (hitAt l p c) = true ↔ ∃ r ∈ standRecs l t, r.page = p ∧ r.cell = c := by
  rw [List.any_eq_true]
  unfold standRecs hitAt
  constructor
  · rintro ⟨n, hn, h⟩
    cases hl : l[n - 1]? with
    | none => rw [hl] at h; cases h
    | some r =>
      rw [hl] at h
      simp only [Bool.and_eq_true, beq_iff_eq] at h
      exact ⟨r, List.mem_filterMap.2 ⟨n, hn, hl⟩, h⟩
  · rintro ⟨r, hr, h1, h2⟩
    obtain ⟨n, hn, hl⟩ := List.mem_filterMap.1 hr
    exact ⟨n, hn, by rw [hl]; simp [h1, h2]⟩
theorem taken_iff {l : List Rc} (hR : Right l) (t p c : Int) : takenR l t p c = true ↔ ∃ u, u ≠ t ∧ 0 < heldBy l (p, c) u := by
  unfold takenR
  rw [List.any_eq_true]
  constructor
  · rintro ⟨j, _, h⟩
    rw [takenAt_eq] at h
    simp only [Bool.and_eq_true, bne_iff_ne] at h
    obtain ⟨h1, h2, h3⟩ := h
    refine ⟨((j + 1 : Nat) : Int), h1, held_pos.2 ?_⟩
    obtain ⟨r, hr, hp⟩ := (hits_iff _ _ _ _).1 h3
    exact ⟨r, by unfold standB; rw [if_neg h2]; exact hr, hp⟩
  · rintro ⟨u, hu, h⟩
    obtain ⟨r, hr, hp⟩ := held_pos.1 h
    obtain ⟨hl, htx, _⟩ := standB_mem hr
    have hb := right_txn l hR r hl
    rw [htx] at hb
    refine ⟨(u - 1).toNat, List.mem_range.2 (by omega), ?_⟩
    have e : (((u - 1).toNat + 1 : Nat) : Int) = u := by omega
    rw [e, takenAt_eq]
    unfold standB at hr
    split at hr
    · cases hr
    · rename_i h4
      simp only [Bool.and_eq_true, bne_iff_ne]
      exact ⟨hu, h4, (hits_iff _ _ _ _).2 ⟨r, hr, hp⟩⟩

/-- May a record of that kind come behind those that the Txn has? -/
def allowsB (s : Int) (n : Nat) (k : Int) : Bool := if k = 1 ∨ k = 2 then s == 0 || s == 1 else if k = 3 then decide (0 < n) && s != 2 else if k = 4 then s == 2 || (s == 3 && n == 0) else false
/-- The record that takes back the last Write that stands. -/
def backB (last : Int) (st : List Rc) : Rc := match st.getLast? with | none => ⟨0, 0, 0, 0, 0, 0, 0, 0⟩ | some w => ⟨3, w.txn, last, w.page, w.cell, w.new, w.old, w.prev⟩
def clashB (l : List Rc) (r : Rc) (h : Int × Int) : Bool := r.old != (pagesR l).getD (r.page.toNat * 4 + r.cell.toNat) 0 || (decide (0 < h.2) && h.1 != r.txn)
def mayNotB (l : List Rc) (r : Rc) (h : Int × Int) : Bool :=
  r.prev != (lastR l r.txn : Nat) || (!allowsB (stateR l r.txn) (standB l r.txn).length r.kind || ((r.kind == 1 && clashB l r h) || (r.kind == 3 && !eqRc r (backB (lastR l r.txn : Nat) (standB l r.txn)))))
/-- Who has a cell, as the book tells it. -/
def HoldOk (l : List Rc) (p : Int × Int) (h : Int × Int) : Prop := (0 < h.2 → 0 < heldBy l p h.1) ∧ (∀ t, 0 < heldBy l p t → 0 < h.2 ∧ h.1 = t)
theorem stateR_range (l : List Rc) (t : Int) : stateR l t = 0 ∨ stateR l t = 1 ∨ stateR l t = 2 ∨ stateR l t = 3 ∨ stateR l t = 4 := by
  unfold stateR; split
  · simp
  · split
    · simp
    · split
      · simp
      · split <;> simp
theorem stand_of_4 {l : List Rc} {t : Int} (h : stateR l t = 4) : standB l t = [] := by unfold standB; rw [if_pos h]
theorem stand_of_n4 {l : List Rc} {t : Int} (h : stateR l t ≠ 4) : standB l t = standRecs l t := by unfold standB; rw [if_neg h]
theorem standRecs_last (l : List Rc) (t : Int) : (standRecs l t).getLast? = (standsR l t).getLast?.bind fun n => l[n - 1]? := by
  rcases List.eq_nil_or_concat (standsR l t) with h | ⟨ms, n, h⟩
  · unfold standRecs; rw [h]; rfl
  · rw [List.concat_eq_append] at h
    obtain ⟨r, hr, _⟩ := writesR_rec t l n (List.mem_of_mem_take (show n ∈ standsR l t by rw [h]; simp))
    unfold standRecs
    rw [h, List.filterMap_append]
    simp [hr]
theorem follows_state0 {l : List Rc} {t : Int} : lastR l t = 0 → stateR l t = 0 := stateR_0
theorem back_case {l : List Rc} {txn prev page cell old new next : Int} {c : Bool} (h4 : stateR l txn ≠ 4) (hb : followsBad l ⟨3, txn, prev, page, cell, old, new, next⟩ = false) (h2 : stateR l txn ≠ 2) (hp : prev = (lastR l txn : Nat)) :
    (!allowsB (stateR l txn) (standB l txn).length 3 || (((3 : Int) == 1 && c) || ((3 : Int) == 3 && !eqRc ⟨3, txn, prev, page, cell, old, new, next⟩ (backB (lastR l txn : Nat) (standB l txn))))) = !followsR l ⟨3, txn, prev, page, cell, old, new, next⟩ := by
  rw [follows_3 hb, stand_of_n4 h4]
  unfold backB
  rw [standRecs_last, standRecs_length]
  rcases List.eq_nil_or_concat (standsR l txn) with h | ⟨ms, n, h⟩
  · rw [h]; simp [allowsB]
  · rw [List.concat_eq_append] at h
    obtain ⟨w, hw, ht, hk⟩ := writesR_rec txn l n (List.mem_of_mem_take (show n ∈ standsR l txn by rw [h]; simp))
    have ha : allowsB (stateR l txn) (standsR l txn).length 3 = true := by rw [h]; simp [allowsB, h2]
    rw [ha, h]
    simp only [List.getLast?_append, List.getLast?_singleton, Option.some_or, Option.bind_some, hw]
    simp only [eqRc, ht, hp, beq_self_eq_true, Bool.true_and, Bool.not_true, Bool.false_or, show ((3 : Int) == 1) = false from rfl, Bool.false_and]
theorem mayNot_eq {l : List Rc} (hR : Right l) {r : Rc} (he : recErr (l.length + 1 : Nat) r = 0) {h : Int × Int} (hh : HoldOk l (r.page, r.cell) h) : mayNotB l r h = !followsR l r := by
  obtain ⟨kind, txn, prev, page, cell, old, new, next⟩ := r
  have hk := recErr_kind he
  dsimp only at hk hh
  unfold mayNotB
  dsimp only
  rcases beq_or (prev != (lastR l txn : Nat)) with hp | hp
  · rw [hp, Bool.true_or, follows_bad (by unfold followsBad; dsimp only; rw [hp]; rfl)]; rfl
  rw [hp, Bool.false_or]
  have tk : (decide (0 < h.2) && h.1 != txn) = takenR l txn page cell := by
    rw [Bool.eq_iff_iff, taken_iff hR]
    simp only [Bool.and_eq_true, decide_eq_true_eq, bne_iff_ne]
    constructor
    · rintro ⟨h1, h2⟩
      exact ⟨h.1, h2, hh.1 h1⟩
    · rintro ⟨u, hu, hp⟩
      obtain ⟨h1, h2⟩ := hh.2 u hp
      exact ⟨h1, by rw [h2]; exact hu⟩
  have lenB : stateR l txn ≠ 4 → (standB l txn).length = (standsR l txn).length := fun h4 => by rw [stand_of_n4 h4, standRecs_length]
  rcases hk with rfl | rfl | rfl | rfl
  · have hcl : clashB l ⟨1, txn, prev, page, cell, old, new, next⟩ h = (old != (pagesR l).getD (page.toNat * 4 + cell.toNat) 0 || takenR l txn page cell) := by
      unfold clashB; dsimp only; rw [tk]
    generalize hpg : (pagesR l).getD (page.toNat * 4 + cell.toNat) 0 = pg at hcl
    rcases stateR_range l txn with hs | hs | hs | hs | hs
    · rw [follows_1 (by unfold followsBad; dsimp only; rw [hp, hs]; rfl), hs, hcl, hpg, show allowsB 0 (standB l txn).length 1 = true from rfl]
      show (false || ((true && (old != pg || takenR l txn page cell)) || (false && _))) = _
      simp only [Bool.false_or, Bool.true_and, Bool.false_and, Bool.or_false, bne]
      cases (old == pg) <;> cases takenR l txn page cell <;> rfl
    · rw [follows_1 (by unfold followsBad; dsimp only; rw [hp, hs]; rfl), hs, hcl, hpg, show allowsB 1 (standB l txn).length 1 = true from rfl]
      show (false || ((true && (old != pg || takenR l txn page cell)) || (false && _))) = _
      simp only [Bool.false_or, Bool.true_and, Bool.false_and, Bool.or_false, bne]
      cases (old == pg) <;> cases takenR l txn page cell <;> rfl
    · rw [follows_bad (by unfold followsBad; dsimp only; rw [hp, hs]; rfl), hs]
      rfl
    · rw [follows_bad (by unfold followsBad; dsimp only; rw [hp, hs]; rfl), hs]
      rfl
    · rw [follows_bad (by unfold followsBad; dsimp only; rw [hp, hs]; rfl), hs]
      rfl
  · rcases stateR_range l txn with hs | hs | hs | hs | hs
    · rw [follows_2 (by unfold followsBad; dsimp only; rw [hp, hs]; rfl), hs]
      rfl
    · rw [follows_2 (by unfold followsBad; dsimp only; rw [hp, hs]; rfl), hs]
      rfl
    · rw [follows_bad (by unfold followsBad; dsimp only; rw [hp, hs]; rfl), hs]
      rfl
    · rw [follows_bad (by unfold followsBad; dsimp only; rw [hp, hs]; rfl), hs]
      rfl
    · rw [follows_bad (by unfold followsBad; dsimp only; rw [hp, hs]; rfl), hs]
      rfl
  · rcases stateR_range l txn with hs | hs | hs | hs | hs
    · exact back_case (by rw [hs]; decide) (by unfold followsBad; dsimp only; rw [hp, hs]; rfl) (by rw [hs]; decide) (by simpa using hp)
    · exact back_case (by rw [hs]; decide) (by unfold followsBad; dsimp only; rw [hp, hs]; rfl) (by rw [hs]; decide) (by simpa using hp)
    · rw [follows_bad (by unfold followsBad; dsimp only; rw [hp, hs]; rfl), hs]
      have e : allowsB 2 (standB l txn).length 3 = false := by simp [allowsB]
      rw [e]; rfl
    · exact back_case (by rw [hs]; decide) (by unfold followsBad; dsimp only; rw [hp, hs]; rfl) (by rw [hs]; decide) (by simpa using hp)
    · rw [follows_bad (by unfold followsBad; dsimp only; rw [hp, hs]; rfl), hs, stand_of_4 hs]
      rfl
  · rcases stateR_range l txn with hs | hs | hs | hs | hs
    · rw [follows_4 (by unfold followsBad; dsimp only; rw [hp, hs]; rfl), hs]
      simp [allowsB]
    · rw [follows_4 (by unfold followsBad; dsimp only; rw [hp, hs]; rfl), hs]
      simp [allowsB]
    · rw [follows_4 (by unfold followsBad; dsimp only; rw [hp, hs]; rfl), hs]
      simp [allowsB]
    · rw [follows_4 (by unfold followsBad; dsimp only; rw [hp, hs]; rfl), lenB (by omega), hs]
      cases standsR l txn <;> simp [allowsB]
    · rw [follows_bad (by unfold followsBad; dsimp only; rw [hp, hs]; rfl), hs]
      simp [allowsB]
end Go.Proofs.Ytgojonhjhdbpkaa.B
