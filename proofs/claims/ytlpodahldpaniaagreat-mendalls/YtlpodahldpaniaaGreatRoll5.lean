/- Who is taken back has turned nothing: the cells behind an Abort, as plain functions. No Go in sight. -/
import Derived.Test.YtlpodahldpaniaaGreatRoll0
namespace Go.Proofs.YtlpodahldpaniaaGreat.B
set_option maxRecDepth 100000

/-- Each cell of which a Write stands as it was ahead of it, the last one first. -/
def undoR (ps : List Int) (st : List Rc) : List Int := st.foldr (fun r qs => qs.set (r.page.toNat * 4 + r.cell.toNat) r.old) ps
theorem undoR_nil (ps : List Int) : undoR ps [] = ps := rfl
theorem undoR_cons (ps : List Int) (r : Rc) (st : List Rc) : undoR ps (r :: st) = (undoR ps st).set (r.page.toNat * 4 + r.cell.toNat) r.old := rfl
theorem undoR_snoc (ps : List Int) (st : List Rc) (r : Rc) : undoR ps (st ++ [r]) = undoR (ps.set (r.page.toNat * 4 + r.cell.toNat) r.old) st := by
  unfold undoR
  rw [List.foldr_append]
  rfl
theorem undoR_len (ps : List Int) (st : List Rc) : (undoR ps st).length = ps.length := by
  induction st with
  | nil => rfl
  | cons r st ih => rw [undoR_cons, List.length_set]; exact ih
theorem undoR_drop (ps : List Int) (st : List Rc) (k : Nat) (h : k < st.length) : undoR ps (st.drop k) = (undoR ps (st.drop (k + 1))).set (st[k].page.toNat * 4 + st[k].cell.toNat) st[k].old := by
  rw [List.drop_eq_getElem_cons h, undoR_cons]
theorem undo_agree {ps qs : List Int} (hl : ps.length = qs.length) (h : ∀ k, k % 4 ≠ 3 → ps.getD k 0 = qs.getD k 0) (st : List Rc) : ∀ k, k % 4 ≠ 3 → (undoR ps st).getD k 0 = (undoR qs st).getD k 0 := by
  induction st with
  | nil => exact h
  | cons r st ih =>
    intro k hk
    rw [undoR_cons, undoR_cons, getD_set, getD_set, undoR_len, undoR_len, hl, ih k hk]
theorem abort_undo (t : Int) : ∀ n l, (standB l t).length = n → Right l → abortErr l t = 0 → ∀ k, k % 4 ≠ 3 → (pagesR (abortR l t)).getD k 0 = (undoR (pagesR l) (standB l t)).getD k 0 := by
  intro n
  induction n with
  | zero =>
    intro l hn hR ha k hk
    have hst : standB l t = [] := List.length_eq_zero_iff.1 hn
    rw [abortR_end hst, hst, undoR_nil, pagesR_snoc, if_neg (by rw [rollRec_end hst]; simp [turns])]
  | succ n ih =>
    intro l hn hR ha k hk
    obtain ⟨h0, hl⟩ := abortErr_zero ha
    rcases List.eq_nil_or_concat (standB l t) with hst | ⟨st, u, hst⟩
    · rw [hst] at hn; cases hn
    · rw [List.concat_eq_append] at hst
      obtain ⟨h1, h2, h3, _⟩ := roll_next hR h0 (by omega) hst
      have hlen : st.length = n := by rw [hst] at hn; simpa using hn
      have hroll := rollRec_back hst
      rw [abortR_back hR h0 (by omega) hst, ih (l ++ [rollRec l t]) (by rw [h3]; exact hlen) h1 (by rw [← abortErr_back hR h0 (by omega) hst]; exact ha) k hk, h3, hst, undoR_snoc]
      refine undo_agree ?_ ?_ st k hk
      · rw [pagesR_len, List.length_set, pagesR_len]
      · intro j hj
        rw [pagesR_snoc, if_pos (by rw [hroll]; rfl), hroll]
        dsimp only
        rw [getD_set _ (u.page.toNat * 4 + 3), if_neg (by omega)]
theorem stand_fits {l : List Rc} (hR : Right l) {t : Int} : ∀ x ∈ standB l t, 0 ≤ x.page ∧ x.page ≤ 2 ∧ 0 ≤ x.cell ∧ x.cell ≤ 2 := fun x hx => by
  obtain ⟨h1, _, h3⟩ := standB_mem hx
  exact right_fits l hR x h1 (turns_of.2 (Or.inl h3))
/-- What an Abort leaves of a right world. -/
theorem abort_all {p q r : Pg} {l : List Rc} {safe t : Int} (h : errOf (worldErr p q r l safe) (abortErr l t) = 0) :
    worldErr p q r l safe = 0 ∧ logErr l = 0 ∧ worldErr p q r (abortR l t) safe = 0 ∧ logErr (abortR l t) = 0 ∧ l.length ≤ 60 ∧ (abortR l t).length ≤ 60 ∧ cellsR (abortR l t) = cellsR l ∧ stateAns (abortR l t) t = (4, ((lastR (abortR l t) t : Nat) : Int), 0) ∧
      stackR l t = standB l t ∧ (∀ x ∈ standB l t, 0 ≤ x.page ∧ x.page ≤ 2 ∧ 0 ≤ x.cell ∧ x.cell ≤ 2) ∧ ∀ k, k % 4 ≠ 3 → (undoR (pagesR l) (standB l t)).getD k 0 = (pagesR (abortR l t)).getD k 0 := by
  obtain ⟨hz, he⟩ := errOf_zero h
  have hl := (worldErr_zero hz).1
  obtain ⟨h60, hR⟩ := logErr_zero hl
  obtain ⟨hR', hs, _⟩ := abort_right hR he
  have hl' := logErr_of hR'
  obtain ⟨ht, hst⟩ := rollErr_zero (abortErr_zero he).1
  refine ⟨hz, hl, ?_, hl', h60, right_len _ hR', abort_cells hR he, ?_, stack_eq t l hR (by omega), stand_fits hR, fun k hk => (abort_undo t _ l rfl hR he k hk).symm⟩
  · obtain ⟨m, hm⟩ := abort_pre hR he
    have hsafe := (out1_false (worldErr_zero hz).2.1).2
    rw [hm] at hl' ⊢
    exact world_app hz hl' (Int.le_refl _) (by simp only [List.length_append]; omega)
  · unfold stateAns
    rw [if_pos hl', out1_ok ht.1 ht.2, hs]
    rfl
end Go.Proofs.YtlpodahldpaniaaGreat.B
