/- What stays right when a world is worked on; what a Commit makes of what must be. No Go in sight. -/
import Derived.Test.YtlpodahldpaniaaGreatWorkA
namespace Go.Proofs.YtlpodahldpaniaaGreat.B
set_option maxRecDepth 100000

theorem untold_app {l m : List Rc} {safe safe' : Int} {i : Nat} {d : Pg} (h : untoldB l safe i d = false) (hs : safe ≤ (l.length : Nat)) (hs' : safe ≤ safe') : untoldB (l ++ m) safe' i d = false := by
  unfold untoldB at h ⊢
  simp only [Bool.or_eq_false_iff] at h ⊢
  obtain ⟨h1, h2⟩ := h
  obtain ⟨h3, h4⟩ := out1_false h1
  refine ⟨out1_ok h3 (by omega), ?_⟩
  rw [List.take_append_of_le_length (by omega)]
  exact h2
theorem world_app {p q r : Pg} {l m : List Rc} {safe safe' : Int} (h : worldErr p q r l safe = 0) (hl : logErr (l ++ m) = 0) (hs : safe ≤ safe') (hs' : safe' ≤ ((l ++ m).length : Nat)) : worldErr p q r (l ++ m) safe' = 0 := by
  obtain ⟨_, h2, h3⟩ := worldErr_zero h
  obtain ⟨h4, h5⟩ := out1_false h2
  simp only [untoldTo, Bool.or_eq_false_iff, Bool.false_or] at h3
  refine worldErr_none hl (out1_ok (by omega) hs') ?_
  simp only [untoldTo, Bool.or_eq_false_iff, Bool.false_or]
  exact ⟨⟨untold_app h3.1.1 h5 hs, untold_app h3.1.2 h5 hs⟩, untold_app h3.2 h5 hs⟩
theorem errOf_zero {we e : Int} (h : errOf we e = 0) : we = 0 ∧ e = 0 := by
  unfold errOf at h
  by_cases hz : we = 0
  · rw [if_pos hz] at h; exact ⟨hz, h⟩
  · rw [if_neg hz] at h; exact absurd h hz
theorem write_right {l : List Rc} (hR : Right l) {t p c v : Int} (h : writeErr l t p c v = 0) : Right (l ++ [writeRec l t p c v]) := (right_snoc _ _).2 ⟨hR, write_step hR h⟩
theorem commit_right {l : List Rc} (hR : Right l) {t : Int} (h : commitErr l t = 0) : Right (l ++ [commitRec l t]) ∧ Right ((l ++ [commitRec l t]) ++ [endRec l t]) := by
  have h1 := (right_snoc _ _).2 ⟨hR, commit_step h⟩
  exact ⟨h1, (right_snoc _ _).2 ⟨h1, end_step h⟩⟩
/-- What a Write leaves of a right world. -/
theorem write_all {p q r : Pg} {l : List Rc} {safe t x c v : Int} (h : errOf (worldErr p q r l safe) (writeErr l t x c v) = 0) :
    worldErr p q r l safe = 0 ∧ logErr l = 0 ∧ worldErr p q r (l ++ [writeRec l t x c v]) safe = 0 ∧ logErr (l ++ [writeRec l t x c v]) = 0 ∧ l.length < 60 ∧ (0 ≤ x ∧ x ≤ 2) ∧ (0 ≤ c ∧ c ≤ 2) ∧
      cellsR (l ++ [writeRec l t x c v]) = cellsR l ∧ pagesR (l ++ [writeRec l t x c v]) = ((pagesR l).set (x.toNat * 4 + c.toNat) v).set (x.toNat * 4 + 3) ((l.length : Int) + 1) := by
  obtain ⟨hz, he⟩ := errOf_zero h
  have hl := (worldErr_zero hz).1
  obtain ⟨h60, hR⟩ := logErr_zero hl
  have hR' := write_right hR he
  have hl' := logErr_of hR'
  obtain ⟨hn, _, _, hlt⟩ := writeErr_zero he
  obtain ⟨_, h2, h3, _⟩ := noneB_false hn
  refine ⟨hz, hl, world_app hz hl' (Int.le_refl _) ?_, hl', hlt, h2, h3, ?_, ?_⟩
  · have := (out1_false (worldErr_zero hz).2.1).2
    simp only [List.length_append, List.length_singleton]
    omega
  · exact cellsR_other (write_step hR he).2 (by simp [writeRec])
  · rw [pagesR_snoc]; rfl
/-- What a Txn has written, over what was. -/
def overR (t : Int) (b : List Int) (l : List Rc) : List Int := foldI (fun cs _ r => if r.txn == t then cs.set (r.page.toNat * 3 + r.cell.toNat) r.new else cs) b 0 l
theorem overR_snoc (t : Int) (b : List Int) (l : List Rc) (r : Rc) : overR t b (l ++ [r]) = if r.txn == t then (overR t b l).set (r.page.toNat * 3 + r.cell.toNat) r.new else overR t b l := foldI_snoc _ _ _ _
theorem overR_take (t : Int) (b : List Int) (l : List Rc) (k : Nat) (h : k < l.length) : overR t b (l.take (k + 1)) = if l[k].txn == t then (overR t b (l.take k)).set (l[k].page.toNat * 3 + l[k].cell.toNat) l[k].new else overR t b (l.take k) := foldI_take _ _ _ _ h
theorem overR_len (t : Int) (b : List Int) : ∀ l : List Rc, (overR t b l).length = b.length := list_snoc _ rfl fun l r ih => by
  rw [overR_snoc]; split
  · rw [List.length_set]; exact ih
  · exact ih
theorem over_one (t : Int) (b : List Int) (hb : b.length = 9) : ∀ l, Right l → (stateR l t = 0 ∨ stateR l t = 1) → ∀ p, InP p → (overR t b l).getD (p.1.toNat * 3 + p.2.toNat) 0 = if 0 < heldBy l p t then cellR l p else b.getD (p.1.toNat * 3 + p.2.toNat) 0 := right_ind _
  (fun _ p _ => by rw [heldBy_cnt, stand_nil']; rfl)
  fun l r hR ih he hf hs p hp => by
    rw [stateR_snoc he hf] at hs
    rw [overR_snoc]
    by_cases ht : r.txn = t
    · rw [if_pos ht] at hs
      have hk := recErr_kind he
      have k : r.kind = 1 := by omega
      have hs0 := state01 hf (Or.inl k)
      have hfit := recErr_fits he (turns_of.2 (Or.inl k))
      have hbt : (r.txn == t) = true := by simpa using ht
      subst ht
      rw [hbt, if_pos rfl, getD_set, overR_len, hb, held_write he hf k]
      obtain ⟨p1, p2⟩ := p
      obtain ⟨g1, g2, g3, g4⟩ := hp
      dsimp only at g1 g2 g3 g4 ⊢
      by_cases e : (p1, p2) = (r.page, r.cell)
      · obtain ⟨e1, e2⟩ := Prod.mk.inj e
        rw [if_pos (by rw [e1, e2]; omega), if_pos e, if_pos (by omega), cellR_snoc he ⟨g1, g2, g3, g4⟩, if_pos ⟨turns_of.2 (Or.inl k), e⟩]
      · have hn2 : ¬ (turns r = true ∧ (p1, p2) = (r.page, r.cell)) := fun x => e x.2
        rw [if_neg (fun x => e (Prod.ext (by dsimp only; omega) (by dsimp only; omega))), if_neg e, cellR_snoc he ⟨g1, g2, g3, g4⟩, if_neg hn2]
        exact ih hs0 (p1, p2) ⟨g1, g2, g3, g4⟩
    · rw [if_neg ht] at hs
      have hbt : (r.txn == t) = false := by simpa using ht
      rw [hbt, if_neg Bool.false_ne_true, held_other he hf ht, ih hs p hp]
      by_cases h0 : 0 < heldBy l p t
      · rw [if_pos h0, if_pos h0, (cell_kept hR he hf hp ht h0).2]
      · rw [if_neg h0, if_neg h0]
/-- A Txn that has Writes alone: each of its records is one. -/
theorem only_writes (t : Int) : ∀ l, Right l → (stateR l t = 0 ∨ stateR l t = 1) → ∀ x ∈ l, x.txn = t → x.kind = 1 := right_ind _ (fun _ x hx => by cases hx)
  fun l r hR ih he hf hs x hx ht => by
    rw [stateR_snoc he hf] at hs
    by_cases hr : r.txn = t
    · rw [if_pos hr] at hs
      have hk := recErr_kind he
      have k : r.kind = 1 := by omega
      rcases List.mem_append.1 hx with hx | hx
      · exact ih (by rw [← hr]; exact state01 hf (Or.inl k)) x hx ht
      · simp at hx; rw [hx]; exact k
    · rw [if_neg hr] at hs
      rcases List.mem_append.1 hx with hx | hx
      · exact ih hs x hx ht
      · simp at hx; subst hx; exact absurd ht hr
/-- What a Commit leaves of a right world. -/
theorem commit_all {p q r : Pg} {l : List Rc} {safe t : Int} (h : errOf (worldErr p q r l safe) (commitErr l t) = 0) :
    worldErr p q r l safe = 0 ∧ logErr l = 0 ∧ worldErr p q r ((l ++ [commitRec l t]) ++ [endRec l t]) ((l.length : Int) + 1) = 0 ∧ logErr (l ++ [commitRec l t]) = 0 ∧ l.length < 59 ∧
      cellsR (l ++ [commitRec l t]) = overR t (cellsR l) l ∧ winsR (l ++ [commitRec l t]) = winsR l ++ [t] ∧ ((l ++ [commitRec l t]) ++ [endRec l t]).take (l.length + 1) = l ++ [commitRec l t] ∧ ∀ x ∈ l, x.txn = t → 0 ≤ x.page ∧ x.page ≤ 2 ∧ 0 ≤ x.cell ∧ x.cell ≤ 2 := by
  obtain ⟨hz, he⟩ := errOf_zero h
  have hl := (worldErr_zero hz).1
  obtain ⟨h60, hR⟩ := logErr_zero hl
  obtain ⟨hR1, hR2⟩ := commit_right hR he
  obtain ⟨_, hst, hlt⟩ := commitErr_zero he
  have hsafe := (out1_false (worldErr_zero hz).2.1).2
  refine ⟨hz, hl, ?_, logErr_of hR1, hlt, ?_, ?_, ?_, ?_⟩
  · have h2 := logErr_of hR2
    rw [List.append_assoc] at h2 ⊢
    refine world_app hz h2 (by omega) ?_
    simp only [List.length_append, List.cons_append, List.nil_append, List.length_cons, List.length_nil]
    omega
  · refine cells_ext (cellsR_len _) (by rw [overR_len]; exact cellsR_len l) fun x hx => ?_
    rw [over_one t _ (cellsR_len l) l hR (Or.inr hst) x hx]
    exact mustR_commit hR (commit_step he).2 rfl hx
  · rw [winsR_snoc]; rfl
  · rw [List.take_append_of_le_length (by simp), List.take_of_length_le (by simp)]
  · intro x hx ht
    exact right_fits l hR x hx (turns_of.2 (Or.inl (only_writes t l hR (Or.inr hst) x hx ht)))
end Go.Proofs.YtlpodahldpaniaaGreat.B
