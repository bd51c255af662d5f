/- What right logs keep: a cell has one owner at most; the Writes of one that stand follow each other, up to what the cell is; a Txn's state never goes back. No Go in sight. -/
import Derived.Test.YtgojonhjhdbpkaaBookSpec3
namespace Go.Proofs.Ytgojonhjhdbpkaa.B
set_option maxRecDepth 100000

theorem taken_none {l : List Rc} (hR : Right l) {t p c : Int} (h : takenR l t p c = false) {u : Int} (hu : u ≠ t) : heldBy l (p, c) u = 0 := by
  by_cases h0 : 0 < heldBy l (p, c) u
  · have := (taken_iff hR t p c).2 ⟨u, hu, h0⟩
    rw [h] at this; cases this
  · omega
/-- One record more: a cell is held by one Write more, if that is a Write of it, else by no more than before. -/
theorem held_step {l : List Rc} {r : Rc} (hR : Right l) (he : recErr (l.length + 1 : Nat) r = 0) (hf : followsR l r = true) (p : Int × Int) (t : Int) :
    heldBy (l ++ [r]) p t ≤ heldBy l p t ∨ (r.kind = 1 ∧ r.txn = t ∧ p = (r.page, r.cell)) := by
  by_cases ht : r.txn = t
  · subst ht
    rcases recErr_kind he with k | k | k | k
    · rw [heldBy_cnt, heldBy_cnt, standB_write he hf k, cnt_snoc]
      by_cases hp : p = (r.page, r.cell)
      · exact Or.inr ⟨k, rfl, hp⟩
      · rw [if_neg hp]; exact Or.inl (Nat.le_refl _)
    · rw [heldBy_cnt, heldBy_cnt, standB_commit he hf k]; exact Or.inl (Nat.le_refl _)
    · obtain ⟨st, w, hst, _, _⟩ := back_last hf k
      rw [heldBy_cnt, heldBy_cnt, standB_back hR he hf k, hst, cnt_snoc]
      left
      simp only [List.dropLast_concat]
      split <;> omega
    · rw [heldBy_cnt, heldBy_cnt, standB_end he hf k]; exact Or.inl (Nat.zero_le _)
  · left; rw [held_other he hf ht]; exact Nat.le_refl _
theorem stand_nil' (t : Int) : standB [] t = [] := by simp [standB, standRecs, standsR, writesR, foldI]
theorem right_alone : ∀ l, Right l → ∀ p t u, 0 < heldBy l p t → 0 < heldBy l p u → t = u := right_ind _
  (fun p t u h => by rw [heldBy_cnt] at h; simp [standB, standRecs, standsR, writesR, foldI, cnt] at h)
  fun l r hR ih he hf p t u ht hu => by
    rcases held_step hR he hf p t with h1 | ⟨k, h1, hp⟩
    · rcases held_step hR he hf p u with h2 | ⟨k, h2, hp⟩
      · exact ih p t u (by omega) (by omega)
      · by_cases e : t = u
        · exact e
        · have := taken_none hR (follows_write k hf) (u := t) (by rw [h2]; exact e)
          rw [← hp] at this; omega
    · by_cases e : t = u
      · exact e
      · have h3 := taken_none hR (follows_write k hf) (u := u) (by rw [h1]; exact fun x => e x.symm)
        rw [← hp] at h3
        rw [held_other he hf (by rw [h1]; exact e)] at hu
        omega
/-- What a cell is, behind a log. -/
def cellR (l : List Rc) (p : Int × Int) : Int := (pagesR l).getD (p.1.toNat * 4 + p.2.toNat) 0
abbrev InP (p : Int × Int) : Prop := 0 ≤ p.1 ∧ p.1 ≤ 2 ∧ 0 ≤ p.2 ∧ p.2 ≤ 2
theorem cellR_snoc {l : List Rc} {r : Rc} {n : Int} (he : recErr n r = 0) {p : Int × Int} (hp : InP p) : cellR (l ++ [r]) p = if turns r = true ∧ p = (r.page, r.cell) then r.new else cellR l p := by
  unfold cellR
  rw [pagesR_snoc]
  cases ht : turns r
  · simp
  · have hf := recErr_fits he ht
    obtain ⟨p1, p2⟩ := p
    obtain ⟨h1, h2, h3, h4⟩ := hp
    dsimp only at h1 h2 h3 h4 ⊢
    simp only [if_true, true_and]
    rw [getD_set, getD_set, if_neg (by omega)]
    have hl := pagesR_len l
    by_cases e : (p1, p2) = (r.page, r.cell)
    · rw [if_pos e]
      obtain ⟨e1, e2⟩ := Prod.mk.inj e
      rw [if_pos (by rw [hl, e1, e2]; omega)]
    · rw [if_neg e, if_neg]
      rintro ⟨h, _⟩
      exact e (Prod.ext (by dsimp only; omega) (by dsimp only; omega))
/-- Each begins where the one ahead of it ended: from a to b. -/
def linked : Int → List Rc → Int → Prop
  | a, [], b => a = b
  | a, w :: ws, b => w.old = a ∧ linked w.new ws b
theorem linked_snoc (w : Rc) : ∀ (ws : List Rc) (a b : Int), linked a (ws ++ [w]) b ↔ linked a ws w.old ∧ w.new = b := by
  intro ws
  induction ws with
  | nil => intro a b; simp only [List.nil_append, linked]; constructor <;> rintro ⟨h1, h2⟩ <;> exact ⟨h1.symm, h2⟩
  | cons x ws ih => intro a b; simp only [List.cons_append, linked, ih, and_assoc]
/-- Those of one cell. -/
def atP (st : List Rc) (p : Int × Int) : List Rc := st.filter fun r => p.1 == r.page && p.2 == r.cell
theorem atP_cnt (st : List Rc) (p : Int × Int) : (atP st p).length = cnt st p := rfl
theorem atP_snoc (st : List Rc) (r : Rc) (p : Int × Int) : atP (st ++ [r]) p = if p = (r.page, r.cell) then atP st p ++ [r] else atP st p := by
  unfold atP
  have e := eqP p (r.page, r.cell)
  dsimp only at e
  rw [List.filter_append, List.filter_cons, e]
  by_cases h : p = (r.page, r.cell) <;> simp [h]
theorem atP_none {l : List Rc} {p : Int × Int} {t : Int} (h : heldBy l p t = 0) : atP (standB l t) p = [] := List.length_eq_zero_iff.1 h
theorem follows_old {l : List Rc} {r : Rc} (k : r.kind = 1) (hf : followsR l r = true) : r.old = cellR l (r.page, r.cell) := by
  unfold followsR at hf
  split at hf
  · cases hf
  · simp only [k, beq_self_eq_true, if_true, Bool.and_eq_true, beq_iff_eq] at hf
    exact hf.1
/-- A Back brings what its Write found. -/
theorem back_last' {l : List Rc} {r : Rc} (hf : followsR l r = true) (k : r.kind = 3) : ∃ st w, standB l r.txn = st ++ [w] ∧ r.page = w.page ∧ r.cell = w.cell ∧ r.new = w.old := by
  obtain ⟨_, s4, _, _⟩ := follows_ok hf
  obtain ⟨n, w, hs, hw, hp, hc, _, hn, _⟩ := follows_back k hf
  have hl : (standB l r.txn).getLast? = some w := by
    rw [stand_of_n4 s4, standRecs_last, hs]
    exact hw
  have hne : standB l r.txn ≠ [] := by intro e; rw [e] at hl; cases hl
  refine ⟨(standB l r.txn).dropLast, w, ?_, hp, hc, hn⟩
  rw [List.getLast?_eq_some_getLast hne] at hl
  injection hl with hl
  rw [← hl]
  exact (List.dropLast_concat_getLast hne).symm
theorem linked_step {l : List Rc} {r : Rc} (hR : Right l) (he : recErr (l.length + 1 : Nat) r = 0) (hf : followsR l r = true) {p : Int × Int} (hp : InP p) {t a : Int}
    (ho : ∀ u, u ≠ t → heldBy l p u = 0) (hw : r.kind = 1 → p = (r.page, r.cell) → r.txn = t) (h4 : r.txn = t → r.kind ≠ 4) (h : linked a (atP (standB l t) p) (cellR l p)) :
    linked a (atP (standB (l ++ [r]) t) p) (cellR (l ++ [r]) p) := by
  rw [cellR_snoc he hp]
  by_cases hpr : p = (r.page, r.cell)
  · rcases recErr_kind he with k | k | k | k
    · have ht := hw k hpr
      subst ht
      rw [if_pos ⟨by rw [turns_of]; exact Or.inl k, hpr⟩, standB_write he hf k, atP_snoc, if_pos hpr, linked_snoc]
      refine ⟨?_, rfl⟩
      rw [follows_old k hf, ← hpr]
      exact h
    · have hn : ¬ (turns r = true ∧ p = (r.page, r.cell)) := fun x => by have := turns_of.1 x.1; omega
      rw [if_neg hn]
      by_cases ht : r.txn = t
      · subst ht; rw [standB_commit he hf k]; exact h
      · rw [standB_other he hf ht]; exact h
    · rw [if_pos ⟨by rw [turns_of]; exact Or.inr k, hpr⟩]
      obtain ⟨st, w, hst, h1, h2, h3⟩ := back_last' hf k
      by_cases ht : r.txn = t
      · subst ht
        rw [hst, atP_snoc, if_pos (by rw [hpr, h1, h2]), linked_snoc] at h
        rw [standB_back hR he hf k, hst, List.dropLast_concat, h3]
        exact h.1
      · have := ho r.txn ht
        rw [heldBy_cnt, hst, cnt_snoc, if_pos (by rw [hpr, h1, h2])] at this
        omega
    · have hn : ¬ (turns r = true ∧ p = (r.page, r.cell)) := fun x => by have := turns_of.1 x.1; omega
      rw [if_neg hn, standB_other he hf (fun x => h4 x k)]
      exact h
  · rw [if_neg (fun x => hpr x.2)]
    by_cases ht : r.txn = t
    · subst ht
      rcases recErr_kind he with k | k | k | k
      · rw [standB_write he hf k, atP_snoc, if_neg hpr]; exact h
      · rw [standB_commit he hf k]; exact h
      · obtain ⟨st, w, hst, h1, h2, _⟩ := back_last' hf k
        rw [hst, atP_snoc, if_neg (fun x => hpr (by rw [x, h1, h2]))] at h
        rw [standB_back hR he hf k, hst, List.dropLast_concat]
        exact h
      · exact absurd k (h4 rfl)
    · rw [standB_other he hf ht]; exact h
/-- Who has a cell has it as its last Write of it tells. -/
theorem right_linked : ∀ l, Right l → ∀ p, InP p → ∀ t, ∃ a, linked a (atP (standB l t) p) (cellR l p) := right_ind _
  (fun p _ t => ⟨_, by rw [stand_nil']; rfl⟩)
  fun l r hR ih he hf p hp t => by
    by_cases h0 : heldBy (l ++ [r]) p t = 0
    · exact ⟨_, by rw [atP_none h0]; rfl⟩
    · by_cases h1 : heldBy l p t = 0
      · rcases held_step hR he hf p t with h | ⟨k, ht, hpr⟩
        · omega
        · subst ht
          refine ⟨r.old, ?_⟩
          rw [standB_write he hf k, atP_snoc, if_pos hpr, atP_none h1, cellR_snoc he hp, if_pos ⟨by rw [turns_of]; exact Or.inl k, hpr⟩]
          exact ⟨rfl, rfl⟩
      · obtain ⟨a, ha⟩ := ih p hp t
        refine ⟨a, linked_step hR he hf hp (fun u hu => ?_) (fun k hpr => ?_) (fun ht k => ?_) ha⟩
        · by_cases hu0 : heldBy l p u = 0
          · exact hu0
          · exact absurd (right_alone l hR p u t (by omega) (by omega)) hu
        · by_cases ht : r.txn = t
          · exact ht
          · have := taken_none hR (follows_write k hf) (u := t) (fun x => ht x.symm)
            rw [← hpr] at this
            exact absurd this h1
        · subst ht
          rw [heldBy_cnt, standB_end he hf k] at h0
          exact absurd rfl h0
end Go.Proofs.Ytgojonhjhdbpkaa.B
