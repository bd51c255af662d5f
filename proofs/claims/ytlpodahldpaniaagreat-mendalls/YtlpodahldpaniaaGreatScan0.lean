/- Looking through, as plain functions of a log and the pages that lie on the disk: what Redo tells. No Go in sight. -/
import Derived.Test.YtlpodahldpaniaaGreatFlush5
namespace Go.Proofs.YtlpodahldpaniaaGreat.B
set_option maxRecDepth 100000

/-- One record more is done again: the pages then, and how many were done. -/
def redoStep (s : List Int × Nat) (k : Nat) (r : Rc) : List Int × Nat :=
  if turns r = true ∧ s.1.getD (r.page.toNat * 4 + 3) 0 < (k : Int) + 1 then ((s.1.set (r.page.toNat * 4 + r.cell.toNat) r.new).set (r.page.toNat * 4 + 3) ((k : Int) + 1), s.2 + 1) else s
def redoR (ps : List Int) (l : List Rc) : List Int × Nat := foldI redoStep (ps, 0) 0 l
theorem redoR_snoc (ps : List Int) (l : List Rc) (r : Rc) : redoR ps (l ++ [r]) = redoStep (redoR ps l) l.length r := foldI_snoc _ _ _ _
theorem redoR_take (ps : List Int) (l : List Rc) (k : Nat) (h : k < l.length) : redoR ps (l.take (k + 1)) = redoStep (redoR ps (l.take k)) k l[k] := foldI_take _ _ _ _ h
theorem redoR_len (ps : List Int) : ∀ l : List Rc, (redoR ps l).1.length = ps.length := list_snoc _ rfl fun l r ih => by
  rw [redoR_snoc]
  unfold redoStep
  split
  · simpa using ih
  · exact ih
theorem redoR_count (ps : List Int) : ∀ l : List Rc, (redoR ps l).2 ≤ l.length := list_snoc _ (Nat.le_refl _) fun l r ih => by
  rw [redoR_snoc, List.length_append, List.length_singleton]
  unfold redoStep
  split
  · dsimp only; omega
  · omega
/-- The twelve numbers of three pages. -/
def numsOf (p q r : Pg) : List Int := [p.c0, p.c1, p.c2, p.last, q.c0, q.c1, q.c2, q.last, r.c0, r.c1, r.c2, r.last]
theorem numsOf_at (p q r : Pg) {i : Nat} (hi : i < 3) : pgAt (numsOf p q r) i = selPg p q r i := by
  have hc : i = 0 ∨ i = 1 ∨ i = 2 := by omega
  rcases hc with rfl | rfl | rfl <;> rfl
theorem pages_ext {a b : List Int} (ha : a.length = 12) (hb : b.length = 12) (h : ∀ i, i < 3 → pgAt a i = pgAt b i) : a = b := by
  refine List.ext_getElem? fun k => ?_
  by_cases hk : k < 12
  · have h0 := h 0 (by decide)
    have h1 := h 1 (by decide)
    have h2 := h 2 (by decide)
    unfold pgAt at h0 h1 h2
    simp only [Pg.mk.injEq] at h0 h1 h2
    have g : a.getD k 0 = b.getD k 0 := by
      have hc : k = 0 ∨ k = 1 ∨ k = 2 ∨ k = 3 ∨ k = 4 ∨ k = 5 ∨ k = 6 ∨ k = 7 ∨ k = 8 ∨ k = 9 ∨ k = 10 ∨ k = 11 := by omega
      rcases hc with rfl | rfl | rfl | rfl | rfl | rfl | rfl | rfl | rfl | rfl | rfl | rfl
      · exact h0.1
      · exact h0.2.1
      · exact h0.2.2.1
      · exact h0.2.2.2
      · exact h1.1
      · exact h1.2.1
      · exact h1.2.2.1
      · exact h1.2.2.2
      · exact h2.1
      · exact h2.2.1
      · exact h2.2.2.1
      · exact h2.2.2.2
    rw [List.getElem?_eq_getElem (by omega), List.getElem?_eq_getElem (by omega)]
    rw [List.getD_eq_getElem?_getD, List.getD_eq_getElem?_getD, List.getElem?_eq_getElem (by omega), List.getElem?_eq_getElem (by omega)] at g
    exact congrArg some g
  · rw [List.getElem?_eq_none (by omega), List.getElem?_eq_none (by omega)]
theorem pgAt_set {ps qs : List Int} (hl : ps.length = 12) (hl2 : qs.length = 12) {i c : Nat} (h : pgAt ps i = pgAt qs i) (v n : Int) : pgAt ((ps.set (i * 4 + c) v).set (i * 4 + 3) n) i = pgAt ((qs.set (i * 4 + c) v).set (i * 4 + 3) n) i := by
  unfold pgAt at h ⊢
  simp only [Pg.mk.injEq] at h ⊢
  obtain ⟨h0, h1, h2, h3⟩ := h
  simp only [getD_set, List.length_set, hl, hl2, h0, h1, h2, h3]
  exact ⟨trivial, trivial, trivial, trivial⟩
/-- Redo, from the pages of a right world on, one page: as it lies there, till its last record; then what the log tells. -/
theorem redo_page (l : List Rc) (hR : Right l) (d : List Int) (hd : d.length = 12) (i : Nat) (hi : i < 3) (h0 : 0 ≤ (pgAt d i).last) (ht : pgAt (pagesR (l.take (pgAt d i).last.toNat)) i = pgAt d i) :
    ∀ k, k ≤ l.length → pgAt (redoR d (l.take k)).1 i = if (k : Int) ≤ (pgAt d i).last then pgAt d i else pgAt (pagesR (l.take k)) i := by
  intro k
  induction k with
  | zero => intro _; rw [List.take_zero, if_pos (by simpa using h0)]; rfl
  | succ k ih =>
    intro hk
    have ih := ih (by omega)
    have hkl : k < l.length := by omega
    obtain ⟨he, hf⟩ := right_follows hR (List.getElem?_eq_getElem hkl)
    rw [redoR_take d l k hkl, pagesR_take l k hkl]
    have hlen : (redoR d (l.take k)).1.length = 12 := by rw [redoR_len, hd]
    have hpl := pagesR_len (l.take k)
    have hlast := (page_told i hi (l.take k) (right_pre hR k)).1.2
    rw [List.length_take_of_le (by omega)] at hlast
    generalize l[k] = r at *
    generalize redoR d (l.take k) = s at *
    unfold redoStep
    by_cases hp : turns r = true ∧ r.page = (i : Nat)
    · obtain ⟨htr, hpg⟩ := hp
      have hfit := recErr_fits he htr
      have hpn : r.page.toNat = i := by omega
      have hsl : s.1.getD (r.page.toNat * 4 + 3) 0 = (pgAt s.1 i).last := by rw [hpn]; rfl
      rw [hsl, ih, if_pos htr]
      by_cases hle : ((k + 1 : Nat) : Int) ≤ (pgAt d i).last
      · rw [if_pos hle, if_pos (show (k : Int) ≤ (pgAt d i).last by omega), if_neg (by rintro ⟨_, h⟩; omega), ih, if_pos (show (k : Int) ≤ (pgAt d i).last by omega)]
      · rw [if_neg hle]
        have hst : pgAt s.1 i = pgAt (pagesR (l.take k)) i := by
          rw [ih]
          by_cases hkk : (k : Int) ≤ (pgAt d i).last
          · have : (pgAt d i).last.toNat = k := by omega
            rw [if_pos hkk, ← ht, this]
          · rw [if_neg hkk]
        rw [← ih, hst, if_pos ⟨htr, by omega⟩]
        dsimp only
        rw [hpn]
        exact pgAt_set hlen hpl hst _ _
    · have h1 : pgAt (if turns r = true ∧ s.1.getD (r.page.toNat * 4 + 3) 0 < (k : Int) + 1 then ((s.1.set (r.page.toNat * 4 + r.cell.toNat) r.new).set (r.page.toNat * 4 + 3) ((k : Int) + 1), s.2 + 1) else s).1 i = pgAt s.1 i := by
        by_cases hc : turns r = true ∧ s.1.getD (r.page.toNat * 4 + 3) 0 < (k : Int) + 1
        · have hfit := recErr_fits he hc.1
          have hne : r.page ≠ (i : Nat) := fun e => hp ⟨hc.1, e⟩
          rw [if_pos hc]
          dsimp only
          rw [pgAt_other (by omega), pgAt_other (by omega)]
        · rw [if_neg hc]
      have h2 : pgAt (if turns r = true then ((pagesR (l.take k)).set (r.page.toNat * 4 + r.cell.toNat) r.new).set (r.page.toNat * 4 + 3) ((k : Int) + 1) else pagesR (l.take k)) i = pgAt (pagesR (l.take k)) i := by
        by_cases hc : turns r = true
        · have hfit := recErr_fits he hc
          have hne : r.page ≠ (i : Nat) := fun e => hp ⟨hc, e⟩
          rw [if_pos hc, pgAt_other (by omega), pgAt_other (by omega)]
        · rw [if_neg hc]
      rw [h1, h2, ih]
      by_cases hle : ((k + 1 : Nat) : Int) ≤ (pgAt d i).last
      · rw [if_pos hle, if_pos (by omega)]
      · rw [if_neg hle]
        by_cases hkk : (k : Int) ≤ (pgAt d i).last
        · have : (pgAt d i).last.toNat = k := by omega
          rw [if_pos hkk, ← ht, this]
        · rw [if_neg hkk]
theorem untold_told {l : List Rc} {safe : Int} {i : Nat} {d : Pg} (h : untoldB l safe i d = false) : 0 ≤ d.last ∧ d.last ≤ safe ∧ pgAt (pagesR (l.take d.last.toNat)) i = d := by
  unfold untoldB at h
  simp only [Bool.or_eq_false_iff, Bool.not_eq_false'] at h
  obtain ⟨h1, h2⟩ := out1_false h.1
  exact ⟨h1, h2, ((eqPg_iff _ _).1 h.2).symm⟩
theorem world_told {p q r : Pg} {l : List Rc} {safe : Int} (h : worldErr p q r l safe = 0) {i : Nat} (hi : i < 3) : 0 ≤ (selPg p q r i).last ∧ (selPg p q r i).last ≤ safe ∧ pgAt (pagesR (l.take (selPg p q r i).last.toNat)) i = selPg p q r i := by
  obtain ⟨_, _, h3⟩ := worldErr_zero h
  simp only [untoldTo, Bool.or_eq_false_iff, Bool.false_or] at h3
  have hc : i = 0 ∨ i = 1 ∨ i = 2 := by omega
  rcases hc with rfl | rfl | rfl
  · exact untold_told h3.1.1
  · exact untold_told h3.1.2
  · exact untold_told h3.2
/-- Whatever lies on the disk, Redo tells what the log tells. -/
theorem redo_told {p q r : Pg} {l : List Rc} (h : worldErr p q r l (l.length : Nat) = 0) : (redoR (numsOf p q r) l).1 = pagesR l := by
  have hR := (logErr_zero (worldErr_zero h).1).2
  refine pages_ext (by rw [redoR_len]; rfl) (pagesR_len l) fun i hi => ?_
  obtain ⟨h1, h2, h3⟩ := world_told h hi
  have hn := numsOf_at p q r hi
  have := redo_page l hR (numsOf p q r) rfl i hi (by rw [hn]; exact h1) (by rw [hn]; exact h3) l.length (Nat.le_refl _)
  rw [List.take_length] at this
  rw [this, hn]
  by_cases hle : ((l.length : Nat) : Int) ≤ (selPg p q r i).last
  · have : (selPg p q r i).last.toNat = l.length := by omega
    rw [if_pos hle, ← h3, this, List.take_length]
  · rw [if_neg hle]
/-- A record that turns a page is no later than the page's last. -/
theorem page_late (i : Nat) (hi : i < 3) : ∀ l, Right l → ∀ k (hk : k < l.length), turns l[k] = true → l[k].page = (i : Nat) → (k : Int) + 1 ≤ (pgAt (pagesR l) i).last := right_ind _ (fun k hk => by cases hk)
  fun l r hR ih he hf k hk ht hp => by
    have hl := pagesR_len l
    by_cases hlast : k < l.length
    · rw [List.getElem_append_left hlast] at ht hp
      have h1 := ih k hlast ht hp
      by_cases same : turns r = true ∧ r.page = (i : Nat)
      · have hfit := recErr_fits he same.1
        have : (pgAt (pagesR (l ++ [r])) i).last = (l.length : Int) + 1 := by
          show (pagesR (l ++ [r])).getD (i * 4 + 3) 0 = _
          rw [pagesR_snoc, if_pos same.1, getD_set, if_pos (by rw [List.length_set, hl]; omega)]
        rw [this]; omega
      · have hpg : pgAt (pagesR (l ++ [r])) i = pgAt (pagesR l) i := by
          rw [pagesR_snoc]
          by_cases htr : turns r = true
          · have hfit := recErr_fits he htr
            have hne : r.page ≠ (i : Nat) := fun e => same ⟨htr, e⟩
            rw [if_pos htr, pgAt_other (by omega), pgAt_other (by omega)]
          · rw [if_neg htr]
        rw [hpg]; exact h1
    · have hkl : k = l.length := by rw [List.length_append, List.length_singleton] at hk; omega
      subst hkl
      rw [List.getElem_concat_length rfl] at ht hp
      have hfit := recErr_fits he ht
      have : (pgAt (pagesR (l ++ [r])) i).last = (l.length : Int) + 1 := by
        show (pagesR (l ++ [r])).getD (i * 4 + 3) 0 = _
        rw [pagesR_snoc, if_pos ht, getD_set, if_pos (by rw [List.length_set, hl]; omega)]
      rw [this]; omega
/-- What is done already is not done again. -/
theorem redo_done {l : List Rc} (hR : Right l) : ∀ k, k ≤ l.length → redoR (pagesR l) (l.take k) = (pagesR l, 0) := by
  intro k
  induction k with
  | zero => intro _; rfl
  | succ k ih =>
    intro hk
    have hkl : k < l.length := by omega
    obtain ⟨he, _⟩ := right_follows hR (List.getElem?_eq_getElem hkl)
    rw [redoR_take _ l k hkl, ih (by omega)]
    unfold redoStep
    rw [if_neg]
    rintro ⟨ht, hlt⟩
    have hfit := recErr_fits he ht
    have h1 := page_late l[k].page.toNat (by omega) l hR k hkl ht (by omega)
    dsimp only at hlt
    have h2 : (pgAt (pagesR l) l[k].page.toNat).last = (pagesR l).getD (l[k].page.toNat * 4 + 3) 0 := rfl
    omega
end Go.Proofs.YtlpodahldpaniaaGreat.B
