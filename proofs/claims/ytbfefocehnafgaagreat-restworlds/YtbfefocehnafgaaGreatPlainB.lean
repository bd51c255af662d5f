/- What lies on the disk is told by the safe log: pages that are laid, and more that is safe. No Go in sight. Looking through, as plain functions of a log and the pages that lie on the disk: what Redo tells. No Go in sight. Worlds behind a crash, and mended, half or all: right, and what must be. No Go in sight. Acts, as plain functions of a world: what each leaves; right worlds stay right, what is safe stays; who has won stays so; who has not is gone behind a crash. No Go in sight. -/
import Derived.Test.YtbfefocehnafgaaGreatFlush1
import Derived.Test.YtbfefocehnafgaaGreatPlainA
namespace Go.Proofs.YtbfefocehnafgaaGreat.B
set_option maxRecDepth 100000

theorem pgAt_other {ps : List Int} {i k : Nat} (h : k < i * 4 ∨ i * 4 + 4 ≤ k) (v : Int) : pgAt (ps.set k v) i = pgAt ps i := by
  unfold pgAt
  rw [getD_set, getD_set, getD_set, getD_set, if_neg (by omega), if_neg (by omega), if_neg (by omega), if_neg (by omega)]
/-- A page is what the log told of it up to its last record. -/
theorem page_told (i : Nat) (hi : i < 3) : ∀ l, Right l → (0 ≤ (pgAt (pagesR l) i).last ∧ (pgAt (pagesR l) i).last ≤ (l.length : Nat)) ∧ pgAt (pagesR (l.take (pgAt (pagesR l) i).last.toNat)) i = pgAt (pagesR l) i := right_ind _
  (by
    have hc : i = 0 ∨ i = 1 ∨ i = 2 := by omega
    rcases hc with rfl | rfl | rfl <;> exact ⟨⟨by decide, by decide⟩, rfl⟩)
  fun l r hR ih he hf => by
    obtain ⟨⟨h1, h2⟩, h3⟩ := ih
    by_cases same : turns r = true ∧ r.page = (i : Nat)
    · obtain ⟨ht, hp⟩ := same
      have hfit := recErr_fits he ht
      have hl := pagesR_len l
      have hlast : (pgAt (pagesR (l ++ [r])) i).last = (l.length : Int) + 1 := by
        show (pagesR (l ++ [r])).getD (i * 4 + 3) 0 = _
        rw [pagesR_snoc, if_pos ht, getD_set, if_pos (by rw [List.length_set, hl]; omega)]
      rw [hlast]
      refine ⟨⟨by omega, by simp⟩, ?_⟩
      rw [show ((l.length : Int) + 1).toNat = (l ++ [r]).length from by simp, List.take_length]
    · have hpg : pgAt (pagesR (l ++ [r])) i = pgAt (pagesR l) i := by
        rw [pagesR_snoc]
        by_cases ht : turns r = true
        · have hfit := recErr_fits he ht
          have hne : r.page ≠ (i : Nat) := fun e => same ⟨ht, e⟩
          rw [if_pos ht, pgAt_other (by omega), pgAt_other (by omega)]
        · rw [if_neg ht]
      rw [hpg]
      refine ⟨⟨h1, by simp only [List.length_append, List.length_singleton]; omega⟩, ?_⟩
      rw [List.take_append_of_le_length (by omega)]
      exact h3
theorem maxI_le_left (a b : Int) : a ≤ maxI a b := by unfold maxI; split <;> omega
theorem maxI_le_right (a b : Int) : b ≤ maxI a b := by unfold maxI; split <;> omega
theorem maxI_le {a b c : Int} (h1 : a ≤ c) (h2 : b ≤ c) : maxI a b ≤ c := by unfold maxI; split <;> omega
theorem untold_more {l : List Rc} {safe safe' : Int} {i : Nat} {d : Pg} (h : untoldB l safe i d = false) (hs : safe ≤ (l.length : Nat)) (hs' : safe ≤ safe') : untoldB l safe' i d = false := by
  have := untold_app (m := []) h hs hs'
  rwa [List.append_nil] at this
theorem world_more {p q r : Pg} {l : List Rc} {safe safe' : Int} (h : worldErr p q r l safe = 0) (hs : safe ≤ safe') (hs' : safe' ≤ (l.length : Nat)) : worldErr p q r l safe' = 0 := by
  have := world_app (m := []) (safe' := safe') h (by rw [List.append_nil]; exact (worldErr_zero h).1) hs (by rw [List.append_nil]; exact hs')
  rwa [List.append_nil] at this
theorem untold_laid {l : List Rc} (hR : Right l) {safe : Int} {i : Nat} (hi : i < 3) (hs : (pgAt (pagesR l) i).last ≤ safe) : untoldB l safe i (pgAt (pagesR l) i) = false := by
  obtain ⟨⟨h1, _⟩, h3⟩ := page_told i hi l hR
  unfold untoldB
  rw [h3, eqPg_refl, out1_ok h1 hs]
  rfl
theorem untold_lay {l : List Rc} (hR : Right l) {safe x : Int} {i : Nat} (hi : i < 3) {d : Pg} (h : untoldB l safe i d = false) (hs : safe ≤ (l.length : Nat)) : untoldB l (laySafe l safe x) i (layPg l x i d) = false := by
  unfold layPg
  by_cases hx : x = (i : Nat)
  · rw [if_pos hx]
    refine untold_laid hR hi ?_
    unfold laySafe
    rw [hx, Int.toNat_natCast]
    exact maxI_le_right _ _
  · rw [if_neg hx]
    exact untold_more h hs (maxI_le_left _ _)
/-- What a page that is laid leaves of a right world. -/
theorem world_lay {p q r : Pg} {l : List Rc} {safe x : Int} (h : worldErr p q r l safe = 0) (hx : 0 ≤ x ∧ x ≤ 2) : worldErr (layPg l x 0 p) (layPg l x 1 q) (layPg l x 2 r) l (laySafe l safe x) = 0 ∧ safe ≤ laySafe l safe x := by
  obtain ⟨hl, h2, h3⟩ := worldErr_zero h
  obtain ⟨h4, h5⟩ := out1_false h2
  have hR := (logErr_zero hl).2
  simp only [untoldTo, Bool.or_eq_false_iff, Bool.false_or] at h3
  have hle : laySafe l safe x ≤ (l.length : Nat) := by
    refine maxI_le h5 ?_
    obtain ⟨k, rfl⟩ : ∃ k : Nat, x = k := ⟨x.toNat, by omega⟩
    have := (page_told k (by omega) l hR).1.2
    rw [Int.toNat_natCast]
    exact this
  have hge : safe ≤ laySafe l safe x := maxI_le_left _ _
  refine ⟨worldErr_none hl (out1_ok (by omega) hle) ?_, hge⟩
  simp only [untoldTo, Bool.or_eq_false_iff, Bool.false_or]
  exact ⟨⟨untold_lay hR (by decide) h3.1.1 h5, untold_lay hR (by decide) h3.1.2 h5⟩, untold_lay hR (by decide) h3.2 h5⟩
/-- No page that lies there has a last record that is not safe. -/
theorem world_last {p q r : Pg} {l : List Rc} {safe : Int} (h : worldErr p q r l safe = 0) : p.last ≤ safe ∧ q.last ≤ safe ∧ r.last ≤ safe := by
  obtain ⟨_, _, h3⟩ := worldErr_zero h
  simp only [untoldTo, Bool.or_eq_false_iff, Bool.false_or] at h3
  have f : ∀ {i : Nat} {d : Pg}, untoldB l safe i d = false → d.last ≤ safe := fun {i d} hd => by
    unfold untoldB at hd
    simp only [Bool.or_eq_false_iff] at hd
    exact (out1_false hd.1).2
  exact ⟨f h3.1.1, f h3.1.2, f h3.2⟩
/-- All that FlushTrue asks, of a Sync that is done, and of a page that is laid then. -/
theorem flush_all {p q r : Pg} {l : List Rc} {safe n : Int} (h : errOf (worldErr p q r l safe) (syncErr l n) = 0) (c : Nat) (hc : c < 3) :
    worldErr p q r l safe = 0 ∧ logErr l = 0 ∧ worldErr p q r l (maxI safe n) = 0 ∧ errOf (worldErr p q r l (maxI safe n)) (pageErr (c : Int)) = 0 ∧
      worldErr (layPg l c 0 p) (layPg l c 1 q) (layPg l c 2 r) l (laySafe l (maxI safe n) c) = 0 ∧ safe ≤ maxI safe n ∧ n ≤ maxI safe n ∧ maxI safe n ≤ laySafe l (maxI safe n) c := by
  obtain ⟨hz, he⟩ := errOf_zero h
  have hs := (out1_false (worldErr_zero hz).2.1).2
  have hn : n ≤ (l.length : Nat) := by
    cases ho : out 0 (l.length : Nat) [n]
    · exact (out1_false ho).2
    · unfold syncErr at he; rw [ho] at he; cases he
  have hz2 := world_more hz (maxI_le_left safe n) (maxI_le hs hn)
  have hp : pageErr (c : Int) = 0 := by unfold pageErr; rw [out1_ok (by omega) (by omega)]; rfl
  obtain ⟨h5, h6⟩ := world_lay (x := (c : Int)) hz2 ⟨by omega, by omega⟩
  exact ⟨hz, (worldErr_zero hz).1, hz2, by unfold errOf; rw [if_pos hz2]; exact hp, h5, maxI_le_left _ _, maxI_le_right _ _, h6⟩
end Go.Proofs.YtbfefocehnafgaaGreat.B
namespace Go.Proofs.YtbfefocehnafgaaGreat.B
set_option maxRecDepth 100000

/-- One record more is done again: the pages then, and how many were done. -/
def redoStep (s : List Int × Nat) (k : Nat) (r : Rc) : List Int × Nat :=
  if turns r = true ∧ s.1.getD (r.page.toNat * 4 + 3) 0 < (k : Int) + 1 then ((s.1.set (r.page.toNat * 4 + r.cell.toNat) r.new).set (r.page.toNat * 4 + 3) ((k : Int) + 1), s.2 + 1) else s
def redoR (ps : List Int) (l : List Rc) : List Int × Nat := foldI redoStep (ps, 0) 0 l
theorem redoR_snoc (ps : List Int) (l : List Rc) (r : Rc) : redoR ps (l ++ [r]) = redoStep (redoR ps l) l.length r := foldI_snoc _ _ _ _
theorem redoR_take (ps : List Int) (l : List Rc) (k : Nat) (h : k < l.length) : redoR ps (l.take (k + 1)) = redoStep (redoR ps (l.take k)) k l[k] := foldI_take _ _ _ _ h
theorem redoR_len (ps : List Int) : ∀ l : List Rc, (redoR ps l).1.length = ps.length := list_snoc _ rfl fun l r ih => by
  rw [redoR_snoc]
  unfold redoStep
  split
  · simpa using ih
  · exact ih
theorem redoR_count (ps : List Int) : ∀ l : List Rc, (redoR ps l).2 ≤ l.length := list_snoc _ (Nat.le_refl _) fun l r ih => by
  rw [redoR_snoc, List.length_append, List.length_singleton]
  unfold redoStep
  split
  · dsimp only; omega
  · omega
/-- The twelve numbers of three pages. -/
def numsOf (p q r : Pg) : List Int := [p.c0, p.c1, p.c2, p.last, q.c0, q.c1, q.c2, q.last, r.c0, r.c1, r.c2, r.last]
theorem numsOf_at (p q r : Pg) {i : Nat} (hi : i < 3) : pgAt (numsOf p q r) i = selPg p q r i := by
  have hc : i = 0 ∨ i = 1 ∨ i = 2 := by omega
  rcases hc with rfl | rfl | rfl <;> rfl
theorem pages_ext {a b : List Int} (ha : a.length = 12) (hb : b.length = 12) (h : ∀ i, i < 3 → pgAt a i = pgAt b i) : a = b := by
  refine List.ext_getElem? fun k => ?_
  by_cases hk : k < 12
  · have h0 := h 0 (by decide)
    have h1 := h 1 (by decide)
    have h2 := h 2 (by decide)
    unfold pgAt at h0 h1 h2
    simp only [Pg.mk.injEq] at h0 h1 h2
    have g : a.getD k 0 = b.getD k 0 := by
      have hc : k = 0 ∨ k = 1 ∨ k = 2 ∨ k = 3 ∨ k = 4 ∨ k = 5 ∨ k = 6 ∨ k = 7 ∨ k = 8 ∨ k = 9 ∨ k = 10 ∨ k = 11 := by omega
      rcases hc with rfl | rfl | rfl | rfl | rfl | rfl | rfl | rfl | rfl | rfl | rfl | rfl
      · exact h0.1
      · exact h0.2.1
      · exact h0.2.2.1
      · exact h0.2.2.2
      · exact h1.1
      · exact h1.2.1
      · exact h1.2.2.1
      · exact h1.2.2.2
      · exact h2.1
      · exact h2.2.1
      · exact h2.2.2.1
      · exact h2.2.2.2
    rw [List.getElem?_eq_getElem (by omega), List.getElem?_eq_getElem (by omega)]
    rw [List.getD_eq_getElem?_getD, List.getD_eq_getElem?_getD, List.getElem?_eq_getElem (by omega), List.getElem?_eq_getElem (by omega)] at g
    exact congrArg some g
  · rw [List.getElem?_eq_none (by omega), List.getElem?_eq_none (by omega)]
theorem pgAt_set {ps qs : List Int} (hl : ps.length = 12) (hl2 : qs.length = 12) {i c : Nat} (h : pgAt ps i = pgAt qs i) (v n : Int) : pgAt ((ps.set (i * 4 + c) v).set (i * 4 + 3) n) i = pgAt ((qs.set (i * 4 + c) v).set (i * 4 + 3) n) i := by
  unfold pgAt at h ⊢
  simp only [Pg.mk.injEq] at h ⊢
  obtain ⟨h0, h1, h2, h3⟩ := h
  simp only [getD_set, List.length_set, hl, hl2, h0, h1, h2, h3]
  exact ⟨trivial, trivial, trivial, trivial⟩
/-- Redo, from the pages of a right world on, one page: as it lies there, till its last record; then what the log tells. -/
theorem redo_page (l : List Rc) (hR : Right l) (d : List Int) (hd : d.length = 12) (i : Nat) (hi : i < 3) (h0 : 0 ≤ (pgAt d i).last) (ht : pgAt (pagesR (l.take (pgAt d i).last.toNat)) i = pgAt d i) :
    ∀ k, k ≤ l.length → pgAt (redoR d (l.take k)).1 i = if (k : Int) ≤ (pgAt d i).last then pgAt d i else pgAt (pagesR (l.take k)) i := by
  intro k
  induction k with
  | zero => intro _; rw [List.take_zero, if_pos (by simpa using h0)]; rfl
  | succ k ih =>
    intro hk
    have ih := ih (by omega)
    have hkl : k < l.length := by omega
    obtain ⟨he, hf⟩ := right_follows hR (List.getElem?_eq_getElem hkl)
    rw [redoR_take d l k hkl, pagesR_take l k hkl]
    have hlen : (redoR d (l.take k)).1.length = 12 := by rw [redoR_len, hd]
    have hpl := pagesR_len (l.take k)
    have hlast := (page_told i hi (l.take k) (right_pre hR k)).1.2
    rw [List.length_take_of_le (by omega)] at hlast
    generalize l[k] = r at *
    generalize redoR d (l.take k) = s at *
    unfold redoStep
    by_cases hp : turns r = true ∧ r.page = (i : Nat)
    · obtain ⟨htr, hpg⟩ := hp
      have hfit := recErr_fits he htr
      have hpn : r.page.toNat = i := by omega
      have hsl : s.1.getD (r.page.toNat * 4 + 3) 0 = (pgAt s.1 i).last := by rw [hpn]; rfl
      rw [hsl, ih, if_pos htr]
      by_cases hle : ((k + 1 : Nat) : Int) ≤ (pgAt d i).last
      · rw [if_pos hle, if_pos (show (k : Int) ≤ (pgAt d i).last by omega), if_neg (by rintro ⟨_, h⟩; omega), ih, if_pos (show (k : Int) ≤ (pgAt d i).last by omega)]
      · rw [if_neg hle]
        have hst : pgAt s.1 i = pgAt (pagesR (l.take k)) i := by
          rw [ih]
          by_cases hkk : (k : Int) ≤ (pgAt d i).last
          · have : (pgAt d i).last.toNat = k := by omega
            rw [if_pos hkk, ← ht, this]
          · rw [if_neg hkk]
        rw [← ih, hst, if_pos ⟨htr, by omega⟩]
        dsimp only
        rw [hpn]
        exact pgAt_set hlen hpl hst _ _
    · have h1 : pgAt (if turns r = true ∧ s.1.getD (r.page.toNat * 4 + 3) 0 < (k : Int) + 1 then ((s.1.set (r.page.toNat * 4 + r.cell.toNat) r.new).set (r.page.toNat * 4 + 3) ((k : Int) + 1), s.2 + 1) else s).1 i = pgAt s.1 i := by
        by_cases hc : turns r = true ∧ s.1.getD (r.page.toNat * 4 + 3) 0 < (k : Int) + 1
        · have hfit := recErr_fits he hc.1
          have hne : r.page ≠ (i : Nat) := fun e => hp ⟨hc.1, e⟩
          rw [if_pos hc]
          dsimp only
          rw [pgAt_other (by omega), pgAt_other (by omega)]
        · rw [if_neg hc]
      have h2 : pgAt (if turns r = true then ((pagesR (l.take k)).set (r.page.toNat * 4 + r.cell.toNat) r.new).set (r.page.toNat * 4 + 3) ((k : Int) + 1) else pagesR (l.take k)) i = pgAt (pagesR (l.take k)) i := by
        by_cases hc : turns r = true
        · have hfit := recErr_fits he hc
          have hne : r.page ≠ (i : Nat) := fun e => hp ⟨hc, e⟩
          rw [if_pos hc, pgAt_other (by omega), pgAt_other (by omega)]
        · rw [if_neg hc]
      rw [h1, h2, ih]
      by_cases hle : ((k + 1 : Nat) : Int) ≤ (pgAt d i).last
      · rw [if_pos hle, if_pos (by omega)]
      · rw [if_neg hle]
        by_cases hkk : (k : Int) ≤ (pgAt d i).last
        · have : (pgAt d i).last.toNat = k := by omega
          rw [if_pos hkk, ← ht, this]
        · rw [if_neg hkk]
theorem untold_told {l : List Rc} {safe : Int} {i : Nat} {d : Pg} (h : untoldB l safe i d = false) : 0 ≤ d.last ∧ d.last ≤ safe ∧ pgAt (pagesR (l.take d.last.toNat)) i = d := by
  unfold untoldB at h
  simp only [Bool.or_eq_false_iff, Bool.not_eq_false'] at h
  obtain ⟨h1, h2⟩ := out1_false h.1
  exact ⟨h1, h2, ((eqPg_iff _ _).1 h.2).symm⟩
theorem world_told {p q r : Pg} {l : List Rc} {safe : Int} (h : worldErr p q r l safe = 0) {i : Nat} (hi : i < 3) : 0 ≤ (selPg p q r i).last ∧ (selPg p q r i).last ≤ safe ∧ pgAt (pagesR (l.take (selPg p q r i).last.toNat)) i = selPg p q r i := by
  obtain ⟨_, _, h3⟩ := worldErr_zero h
  simp only [untoldTo, Bool.or_eq_false_iff, Bool.false_or] at h3
  have hc : i = 0 ∨ i = 1 ∨ i = 2 := by omega
  rcases hc with rfl | rfl | rfl
  · exact untold_told h3.1.1
  · exact untold_told h3.1.2
  · exact untold_told h3.2
/-- Whatever lies on the disk, Redo tells what the log tells. -/
theorem redo_told {p q r : Pg} {l : List Rc} (h : worldErr p q r l (l.length : Nat) = 0) : (redoR (numsOf p q r) l).1 = pagesR l := by
  have hR := (logErr_zero (worldErr_zero h).1).2
  refine pages_ext (by rw [redoR_len]; rfl) (pagesR_len l) fun i hi => ?_
  obtain ⟨h1, h2, h3⟩ := world_told h hi
  have hn := numsOf_at p q r hi
  have := redo_page l hR (numsOf p q r) rfl i hi (by rw [hn]; exact h1) (by rw [hn]; exact h3) l.length (Nat.le_refl _)
  rw [List.take_length] at this
  rw [this, hn]
  by_cases hle : ((l.length : Nat) : Int) ≤ (selPg p q r i).last
  · have : (selPg p q r i).last.toNat = l.length := by omega
    rw [if_pos hle, ← h3, this, List.take_length]
  · rw [if_neg hle]
/-- A record that turns a page is no later than the page's last. -/
theorem page_late (i : Nat) (hi : i < 3) : ∀ l, Right l → ∀ k (hk : k < l.length), turns l[k] = true → l[k].page = (i : Nat) → (k : Int) + 1 ≤ (pgAt (pagesR l) i).last := right_ind _ (fun k hk => by cases hk)
  fun l r hR ih he hf k hk ht hp => by
    have hl := pagesR_len l
    by_cases hlast : k < l.length
    · rw [List.getElem_append_left hlast] at ht hp
      have h1 := ih k hlast ht hp
      by_cases same : turns r = true ∧ r.page = (i : Nat)
      · have hfit := recErr_fits he same.1
        have : (pgAt (pagesR (l ++ [r])) i).last = (l.length : Int) + 1 := by
          show (pagesR (l ++ [r])).getD (i * 4 + 3) 0 = _
          rw [pagesR_snoc, if_pos same.1, getD_set, if_pos (by rw [List.length_set, hl]; omega)]
        rw [this]; omega
      · have hpg : pgAt (pagesR (l ++ [r])) i = pgAt (pagesR l) i := by
          rw [pagesR_snoc]
          by_cases htr : turns r = true
          · have hfit := recErr_fits he htr
            have hne : r.page ≠ (i : Nat) := fun e => same ⟨htr, e⟩
            rw [if_pos htr, pgAt_other (by omega), pgAt_other (by omega)]
          · rw [if_neg htr]
        rw [hpg]; exact h1
    · have hkl : k = l.length := by rw [List.length_append, List.length_singleton] at hk; omega
      subst hkl
      rw [List.getElem_concat_length rfl] at ht hp
      have hfit := recErr_fits he ht
      have : (pgAt (pagesR (l ++ [r])) i).last = (l.length : Int) + 1 := by
        show (pagesR (l ++ [r])).getD (i * 4 + 3) 0 = _
        rw [pagesR_snoc, if_pos ht, getD_set, if_pos (by rw [List.length_set, hl]; omega)]
      rw [this]; omega
/-- What is done already is not done again. -/
theorem redo_done {l : List Rc} (hR : Right l) : ∀ k, k ≤ l.length → redoR (pagesR l) (l.take k) = (pagesR l, 0) := by
  intro k
  induction k with
  | zero => intro _; rfl
  | succ k ih =>
    intro hk
    have hkl : k < l.length := by omega
    obtain ⟨he, _⟩ := right_follows hR (List.getElem?_eq_getElem hkl)
    rw [redoR_take _ l k hkl, ih (by omega)]
    unfold redoStep
    rw [if_neg]
    rintro ⟨ht, hlt⟩
    have hfit := recErr_fits he ht
    have h1 := page_late l[k].page.toNat (by omega) l hR k hkl ht (by omega)
    dsimp only at hlt
    have h2 : (pgAt (pagesR l) l[k].page.toNat).last = (pagesR l).getD (l[k].page.toNat * 4 + 3) 0 := rfl
    omega
end Go.Proofs.YtbfefocehnafgaaGreat.B
namespace Go.Proofs.YtbfefocehnafgaaGreat.B
set_option maxRecDepth 100000

theorem untold_cut {l : List Rc} {safe : Int} {i : Nat} {d : Pg} (h : untoldB l safe i d = false) : untoldB (l.take safe.toNat) safe i d = false := by
  obtain ⟨h1, h2, h3⟩ := untold_told h
  unfold untoldB
  rw [out1_ok h1 h2, List.take_take, show min d.last.toNat safe.toNat = d.last.toNat from by omega, h3, eqPg_refl]
  rfl
/-- Behind a crash the world is right, and all of its log is safe. -/
theorem world_cut {p q r : Pg} {l : List Rc} {safe : Int} (h : worldErr p q r l safe = 0) : worldErr p q r (l.take safe.toNat) safe = 0 ∧ (((l.take safe.toNat).length : Nat) : Int) = safe := by
  obtain ⟨hl, h2, h3⟩ := worldErr_zero h
  obtain ⟨h4, h5⟩ := out1_false h2
  have hlen : (((l.take safe.toNat).length : Nat) : Int) = safe := by rw [List.length_take_of_le (by omega)]; omega
  simp only [untoldTo, Bool.or_eq_false_iff, Bool.false_or] at h3
  refine ⟨worldErr_none (logErr_pre hl _) (out1_ok h4 (by omega)) ?_, hlen⟩
  simp only [untoldTo, Bool.or_eq_false_iff, Bool.false_or]
  exact ⟨⟨untold_cut h3.1.1, untold_cut h3.1.2⟩, untold_cut h3.2⟩
/-- A page, laid or left. -/
def laidPg (l : List Rc) (b : Bool) (i : Nat) (d : Pg) : Pg := if b then pgAt (pagesR l) i else d
theorem untold_half {c m : List Rc} (hR : Right (c ++ m)) {safe : Int} {i : Nat} (hi : i < 3) {d : Pg} (h : untoldB c safe i d = false) (hs : safe ≤ (c.length : Nat)) (b : Bool) : untoldB (c ++ m) ((c ++ m).length : Nat) i (laidPg (c ++ m) b i d) = false := by
  unfold laidPg
  cases b
  · exact untold_app h hs (by rw [List.length_append]; omega)
  · exact untold_laid hR hi (page_told i hi _ hR).1.2
/-- More records behind the log, all of it safe, some pages laid: the world is right. -/
theorem world_half {p q r : Pg} {c m : List Rc} {safe : Int} (h : worldErr p q r c safe = 0) (hR : Right (c ++ m)) (b0 b1 b2 : Bool) : worldErr (laidPg (c ++ m) b0 0 p) (laidPg (c ++ m) b1 1 q) (laidPg (c ++ m) b2 2 r) (c ++ m) ((c ++ m).length : Nat) = 0 := by
  obtain ⟨_, h2, h3⟩ := worldErr_zero h
  obtain ⟨_, h5⟩ := out1_false h2
  simp only [untoldTo, Bool.or_eq_false_iff, Bool.false_or] at h3
  refine worldErr_none (logErr_of hR) (out1_ok (by omega) (Int.le_refl _)) ?_
  simp only [untoldTo, Bool.or_eq_false_iff, Bool.false_or]
  exact ⟨⟨untold_half hR (by decide) h3.1.1 h5 b0, untold_half hR (by decide) h3.1.2 h5 b1⟩, untold_half hR (by decide) h3.2 h5 b2⟩
/-- The document's error of mending, of a log all of which is safe. -/
def mendErr (l : List Rc) : Int := if 60 < l.length + needR l then 2 else 0
theorem mendErr_zero {l : List Rc} : mendErr l = 0 ↔ l.length + needR l ≤ 60 := by
  unfold mendErr
  split
  · exact ⟨fun h => (by cases h), fun h => (by omega)⟩
  · exact ⟨fun _ => by omega, fun _ => rfl⟩
/-- The cells of pages, nine of twelve. -/
theorem cells_must {l : List Rc} (hR : Right l) (h : isNext l = false) {i j : Nat} (hi : i < 3) (hj : j < 3) : (pagesR l).getD (i * 4 + j) 0 = (cellsR l).getD (i * 3 + j) 0 := by
  have := (mended_calm hR h).2 ((i : Nat), (j : Nat)) ⟨by omega, by dsimp only; omega, by omega, by dsimp only; omega⟩
  unfold mustR cellR at this
  simp only [Int.toNat_natCast] at this
  exact this.symm
/-- All that MendTrue and MendFew ask. -/
theorem mend_all {p q r : Pg} {l : List Rc} {safe : Int} (h : worldErr p q r l safe = 0) (he : mendErr (l.take safe.toNat) = 0) :
    Right (mendR (l.take safe.toNat)) ∧ (mendR (l.take safe.toNat)).length = safe.toNat + needR (l.take safe.toNat) ∧ (mendR (l.take safe.toNat)).length ≤ 60 ∧
      worldErr (pgAt (pagesR (mendR (l.take safe.toNat))) 0) (pgAt (pagesR (mendR (l.take safe.toNat))) 1) (pgAt (pagesR (mendR (l.take safe.toNat))) 2) (mendR (l.take safe.toNat)) ((mendR (l.take safe.toNat)).length : Nat) = 0 ∧
      losersR (mendR (l.take safe.toNat)) = [] ∧ needR (mendR (l.take safe.toNat)) = 0 ∧ mendR (mendR (l.take safe.toNat)) = mendR (l.take safe.toNat) ∧
      ∀ i j, i < 3 → j < 3 → (pagesR (mendR (l.take safe.toNat))).getD (i * 4 + j) 0 = (cellsR (l.take safe.toNat)).getD (i * 3 + j) 0 := by
  obtain ⟨hc, hlen⟩ := world_cut h
  have hR := (logErr_zero (worldErr_zero hc).1).2
  have hle := mendErr_zero.1 he
  obtain ⟨h1, h2, h3, h4, m, h5⟩ := mendR_all hR hle
  have hs : (l.take safe.toNat).length = safe.toNat := by omega
  have hn := need_zero.2 h2
  refine ⟨h1, by rw [h3, hs], by omega, ?_, (mended_calm h1 h2).1, hn, ?_, fun i j hi hj => by rw [cells_must h1 h2 hi hj, h4]⟩
  · have := world_half hc (h5 ▸ h1) true true true
    rw [← h5] at this
    exact this
  · show mendN (needR (mendR (l.take safe.toNat))) (mendR (l.take safe.toNat)) = _
    rw [hn]
    rfl
/-- All that MendOnce and MendOften ask of a step: half, and then all, is all at once. -/
theorem mend_half {p q r : Pg} {l : List Rc} {safe : Int} (h : worldErr p q r l safe = 0) (he : mendErr (l.take safe.toNat) = 0) (n : Nat) (b0 b1 b2 : Bool) :
    worldErr (laidPg (mendN n (l.take safe.toNat)) b0 0 p) (laidPg (mendN n (l.take safe.toNat)) b1 1 q) (laidPg (mendN n (l.take safe.toNat)) b2 2 r) (mendN n (l.take safe.toNat)) ((mendN n (l.take safe.toNat)).length : Nat) = 0 ∧
      (mendN n (l.take safe.toNat)).length ≤ 60 ∧ (mendN n (l.take safe.toNat)).take ((mendN n (l.take safe.toNat)).length : Int).toNat = mendN n (l.take safe.toNat) ∧ mendErr (mendN n (l.take safe.toNat)) = 0 ∧
      mendR (mendN n (l.take safe.toNat)) = mendR (l.take safe.toNat) ∧ needR (mendN n (l.take safe.toNat)) ≤ needR (l.take safe.toNat) := by
  obtain ⟨hc, hlen⟩ := world_cut h
  have hR := (logErr_zero (worldErr_zero hc).1).2
  have hle := mendErr_zero.1 he
  obtain ⟨h1, h2, h3, h4⟩ := mendR_part hR hle n
  have hpre : ∃ m, mendN n (l.take safe.toNat) = l.take safe.toNat ++ m := by
    rw [mendN_min n _ hR (by omega)]
    exact (mend_ind (fun k => ∃ m, k = l.take safe.toNat ++ m) (fun k _ _ _ ⟨m, hm⟩ => ⟨m ++ [mendRec k], by rw [hm, List.append_assoc]⟩) _ _ hR (by omega) (by omega) ⟨[], by simp⟩).2.1
  obtain ⟨m, hm⟩ := hpre
  refine ⟨?_, right_len _ h1, by rw [Int.toNat_natCast, List.take_length], mendErr_zero.2 (by omega), h2, h3⟩
  have := world_half hc (hm ▸ h1) b0 b1 b2
  rw [← hm] at this
  exact this
end Go.Proofs.YtbfefocehnafgaaGreat.B
namespace Go.Proofs.YtbfefocehnafgaaGreat.B
set_option maxRecDepth 100000

/-- A world, and an act, as plain numbers. -/
structure Wd where
  p : Pg
  q : Pg
  r : Pg
  l : List Rc
  safe : Int
structure Ac where
  kind : Int
  txn : Int
  page : Int
  cell : Int
  val : Int
def Wd.err (w : Wd) : Int := worldErr w.p w.q w.r w.l w.safe
/-- The log that is safe. -/
def Wd.cut (w : Wd) : List Rc := w.l.take w.safe.toNat
def noWd : Wd := ⟨noPg, noPg, noPg, [], 0⟩
/-- The error of an act. -/
def doErr (w : Wd) (x : Ac) : Int :=
  if x.kind = 1 then errOf w.err (writeErr w.l x.txn x.page x.cell x.val)
  else if x.kind = 2 then errOf w.err (commitErr w.l x.txn)
  else if x.kind = 3 then errOf w.err (abortErr w.l x.txn)
  else if x.kind = 4 then errOf w.err (syncErr w.l x.val)
  else if x.kind = 5 then errOf w.err (pageErr x.page)
  else if x.kind = 6 then errOf w.err (mendErr w.cut)
  else 4
def mendWd (w : Wd) : Wd := ⟨pgAt (pagesR (mendR w.cut)) 0, pgAt (pagesR (mendR w.cut)) 1, pgAt (pagesR (mendR w.cut)) 2, mendR w.cut, ((mendR w.cut).length : Nat)⟩
/-- What an act without an error leaves. -/
def doTo (w : Wd) (x : Ac) : Wd :=
  if x.kind = 1 then { w with l := w.l ++ [writeRec w.l x.txn x.page x.cell x.val] }
  else if x.kind = 2 then { w with l := (w.l ++ [commitRec w.l x.txn]) ++ [endRec w.l x.txn], safe := (w.l.length : Int) + 1 }
  else if x.kind = 3 then { w with l := abortR w.l x.txn }
  else if x.kind = 4 then { w with safe := maxI w.safe x.val }
  else if x.kind = 5 then ⟨layPg w.l x.page 0 w.p, layPg w.l x.page 1 w.q, layPg w.l x.page 2 w.r, w.l, laySafe w.l w.safe x.page⟩
  else mendWd w
theorem safe_le {w : Wd} (h : w.err = 0) : 0 ≤ w.safe ∧ w.safe ≤ (w.l.length : Nat) := out1_false (worldErr_zero h).2.1
theorem pageErr_zero {x : Int} (h : pageErr x = 0) : 0 ≤ x ∧ x ≤ 2 := by
  cases ho : out 0 2 [x]
  · exact out1_false ho
  · unfold pageErr at h; rw [ho] at h; cases h
theorem syncErr_zero {l : List Rc} {x : Int} (h : syncErr l x = 0) : 0 ≤ x ∧ x ≤ (l.length : Nat) := by
  cases ho : out 0 (l.length : Nat) [x]
  · exact out1_false ho
  · unfold syncErr at h; rw [ho] at h; cases h
/-- A right world stays right; no less is safe; what was safe stays, ahead of all. -/
theorem do_right {w : Wd} {x : Ac} (h : doErr w x = 0) : w.err = 0 ∧ (doTo w x).err = 0 ∧ w.safe ≤ (doTo w x).safe ∧ (doTo w x).l.take w.safe.toNat = w.l.take w.safe.toNat := by
  obtain ⟨p, q, r, l, safe⟩ := w
  obtain ⟨k, t, pg, c, v⟩ := x
  unfold doErr Wd.err Wd.cut at h
  unfold doTo
  dsimp only at h ⊢
  by_cases h1 : k = 1
  · rw [if_pos h1] at h ⊢
    obtain ⟨hz, _, hw, _⟩ := write_all h
    have := safe_le (w := ⟨p, q, r, l, safe⟩) hz
    exact ⟨hz, hw, Int.le_refl _, List.take_append_of_le_length (by dsimp only at this; omega)⟩
  rw [if_neg h1] at h ⊢
  by_cases h2 : k = 2
  · rw [if_pos h2] at h ⊢
    obtain ⟨hz, _, hw, _⟩ := commit_all h
    have := safe_le (w := ⟨p, q, r, l, safe⟩) hz
    dsimp only at this
    refine ⟨hz, hw, by dsimp only; omega, ?_⟩
    rw [List.append_assoc]
    exact List.take_append_of_le_length (by omega)
  rw [if_neg h2] at h ⊢
  by_cases h3 : k = 3
  · rw [if_pos h3] at h ⊢
    obtain ⟨hz, hl, hw, _⟩ := abort_all h
    have := safe_le (w := ⟨p, q, r, l, safe⟩) hz
    dsimp only at this
    obtain ⟨m, hm⟩ := abort_pre (logErr_zero hl).2 (errOf_zero h).2
    refine ⟨hz, hw, Int.le_refl _, ?_⟩
    dsimp only
    rw [hm]
    exact List.take_append_of_le_length (by omega)
  rw [if_neg h3] at h ⊢
  by_cases h4 : k = 4
  · rw [if_pos h4] at h ⊢
    obtain ⟨hz, he⟩ := errOf_zero h
    have := safe_le (w := ⟨p, q, r, l, safe⟩) hz
    have hv := syncErr_zero he
    exact ⟨hz, world_more hz (maxI_le_left _ _) (maxI_le this.2 hv.2), maxI_le_left _ _, rfl⟩
  rw [if_neg h4] at h ⊢
  by_cases h5 : k = 5
  · rw [if_pos h5] at h ⊢
    obtain ⟨hz, he⟩ := errOf_zero h
    obtain ⟨h6, h7⟩ := world_lay hz (pageErr_zero he)
    exact ⟨hz, h6, h7, rfl⟩
  rw [if_neg h5] at h ⊢
  by_cases h6 : k = 6
  · rw [if_pos h6] at h
    obtain ⟨hz, he⟩ := errOf_zero h
    obtain ⟨k1, k2, k3, k4, _⟩ := mend_all hz he
    have := safe_le (w := ⟨p, q, r, l, safe⟩) hz
    dsimp only at this
    obtain ⟨hc, hlen⟩ := world_cut hz
    obtain ⟨m, hm⟩ := (mendR_all (logErr_zero (worldErr_zero hc).1).2 (mendErr_zero.1 he)).2.2.2.2
    refine ⟨hz, k4, ?_, ?_⟩
    · show safe ≤ (((mendR (l.take safe.toNat)).length : Nat) : Int)
      omega
    · show (mendR (l.take safe.toNat)).take safe.toNat = l.take safe.toNat
      rw [hm, List.take_append_of_le_length (by omega), List.take_take, Nat.min_self]
  · rw [if_neg h6] at h; cases h
theorem wins_app (l : List Rc) : ∀ m, ∃ ws, winsR (l ++ m) = winsR l ++ ws := list_snoc _ ⟨[], by simp⟩ fun m r ⟨ws, ih⟩ => by
  rw [← List.append_assoc, winsR_snoc, ih]
  split
  · exact ⟨ws ++ [r.txn], by rw [List.append_assoc]⟩
  · exact ⟨ws, rfl⟩
/-- What is safe grows at its end alone. -/
theorem do_cut {w : Wd} {x : Ac} (h : doErr w x = 0) : ∃ m, (doTo w x).cut = w.cut ++ m := by
  obtain ⟨hz, hz', hs, ht⟩ := do_right h
  have h1 := safe_le hz
  refine ⟨(doTo w x).cut.drop w.safe.toNat, ?_⟩
  have : (doTo w x).cut.take w.safe.toNat = w.cut := by
    unfold Wd.cut
    rw [List.take_take, show min w.safe.toNat (doTo w x).safe.toNat = w.safe.toNat from by omega, ht]
  rw [← this, List.take_append_drop]
/-- An act is done, or left if it has an error. -/
def doOr (w : Wd) (x : Ac) : Wd := if doErr w x = 0 then doTo w x else w
/-- Who has won in the safe log of a right world. -/
def Won (w : Wd) (t : Int) : Prop := w.err = 0 ∧ t ∈ winsR w.cut
theorem won_do {w : Wd} {t : Int} (h : Won w t) (x : Ac) : Won (doOr w x) t := by
  unfold doOr
  split
  · rename_i he
    obtain ⟨m, hm⟩ := do_cut he
    obtain ⟨ws, hw⟩ := wins_app w.cut m
    refine ⟨(do_right he).2.1, ?_⟩
    rw [hm, hw]
    exact List.mem_append_left _ h.2
  · exact h
theorem won_commit {p q r : Pg} {l : List Rc} {safe t : Int} (h : errOf (worldErr p q r l safe) (commitErr l t) = 0) : Won ⟨p, q, r, (l ++ [commitRec l t]) ++ [endRec l t], (l.length : Int) + 1⟩ t := by
  obtain ⟨_, _, hw, _, _, _, hwin, htk, _⟩ := commit_all h
  refine ⟨hw, ?_⟩
  show t ∈ winsR (((l ++ [commitRec l t]) ++ [endRec l t]).take ((l.length : Int) + 1).toNat)
  rw [show ((l.length : Int) + 1).toNat = l.length + 1 from by omega, htk, hwin]
  simp
/-- No Commit is put when a log is mended. -/
theorem mend_wins {l : List Rc} (hR : Right l) (hl : l.length + needR l ≤ 60) : winsR (mendR l) = winsR l := by
  have := mend_ind (fun k => winsR k = winsR l) (fun k hk hn hlt h => by
    obtain ⟨_, _, hkd, _⟩ := mend_step hk hn hlt
    have hb : ((mendRec k).kind == 2) = false := by rcases hkd with e | e <;> rw [e] <;> rfl
    rw [winsR_snoc, hb, if_neg Bool.false_ne_true, h]) (needR l) l hR (Nat.le_refl _) hl rfl
  exact this.2.1
/-- All that ActKept asks of a world in which the Txn has won. -/
theorem kept_all {w : Wd} {t : Int} (h : Won w t) (he : mendErr w.cut = 0) :
    (mendWd w).err = 0 ∧ logErr (mendR w.cut) = 0 ∧ (mendR w.cut).length ≤ 60 ∧ t ∈ winsR (mendR w.cut) ∧ ∀ i j, i < 3 → j < 3 → (pagesR (mendR w.cut)).getD (i * 4 + j) 0 = (cellsR (mendR w.cut)).getD (i * 3 + j) 0 := by
  obtain ⟨hz, hw⟩ := h
  obtain ⟨k1, k2, k3, k4, _, _, _, k8⟩ := mend_all hz he
  obtain ⟨hc, _⟩ := world_cut hz
  have hR : Right w.cut := (logErr_zero (worldErr_zero hc).1).2
  have hle := mendErr_zero.1 he
  refine ⟨k4, logErr_of k1, k3, ?_, fun i j hi hj => ?_⟩
  · rw [mend_wins hR hle]; exact hw
  · rw [(mendR_all hR hle).2.2.2.1]; exact k8 i j hi hj
theorem mendErr_many {l : List Rc} (h : mendErr l ≠ 0) : mendErr l = 2 := by
  unfold mendErr at h ⊢
  split
  · rfl
  · rename_i x; rw [if_neg x] at h; exact absurd rfl h
theorem wins_state {l : List Rc} {t : Int} (h : t ∈ winsR l) : stateR l t = 2 ∨ stateR l t = 4 := by
  have hc : (winsR l).contains t = true := by simpa using h
  rw [wins_count] at hc
  have h0 : 0 < countR l t 2 := of_decide_eq_true hc
  by_cases h4 : stateR l t = 4
  · exact Or.inr h4
  · by_cases h2 : stateR l t = 2
    · exact Or.inl h2
    · have := state_not2 h4 h2
      omega
/-- All that ActLost asks. -/
theorem lost_all {p q r : Pg} {l : List Rc} {safe t : Int} (h : worldErr p q r l safe = 0) (he : mendErr (l.take safe.toNat) = 0) (ht : 1 ≤ t ∧ t ≤ 9) :
    (stateR (mendR (l.take safe.toNat)) t = 0 ∨ stateR (mendR (l.take safe.toNat)) t = 4) ∧ logErr (mendR (l.take safe.toNat)) = 0 ∧ (mendR (l.take safe.toNat)).length ≤ 60 ∧ (t ∈ winsR (mendR (l.take safe.toNat)) → stateR l t = 2 ∨ stateR l t = 4) := by
  obtain ⟨hc, _⟩ := world_cut h
  have hR := (logErr_zero (worldErr_zero hc).1).2
  have hle := mendErr_zero.1 he
  obtain ⟨h1, h2, h3, _⟩ := mendR_all hR hle
  have hnb : firstR (mendR (l.take safe.toNat)) = 0 ∧ bestR (mendR (l.take safe.toNat)) = 0 := by unfold isNext at h2; simpa using h2
  have hf := firstR_zero.1 hnb.1 t ht.1 ht.2
  have hlo := bestR_zero.1 hnb.2
  have hnh : ¬ Hangs (mendR (l.take safe.toNat)) t := fun hh => by
    have : t ∈ losersR (mendR (l.take safe.toNat)) := losersR_mem.2 ⟨ht, hh⟩
    rw [hlo] at this
    cases this
  refine ⟨?_, logErr_of h1, right_len _ h1, fun hw => wins_state ?_⟩
  · have := stateR_range (mendR (l.take safe.toNat)) t
    unfold Hangs at hnh
    omega
  · rw [mend_wins hR hle] at hw
    obtain ⟨ws, e⟩ := wins_app (l.take safe.toNat) (l.drop safe.toNat)
    rw [List.take_append_drop] at e
    rw [e]
    exact List.mem_append_left _ hw
/-- All acts, one behind the other; how many had no error. -/
def doneW (xs : List Ac) : Wd := xs.foldl doOr noWd
def doneN : Wd → List Ac → Nat
  | _, [] => 0
  | w, x :: xs => (if doErr w x = 0 then 1 else 0) + doneN (doOr w x) xs
theorem doneW_snoc (xs : List Ac) (x : Ac) : doneW (xs ++ [x]) = doOr (doneW xs) x := by unfold doneW; rw [List.foldl_append]; rfl
theorem doneN_snoc (xs : List Ac) (x : Ac) : ∀ w, doneN w (xs ++ [x]) = doneN w xs + if doErr (xs.foldl doOr w) x = 0 then 1 else 0 := by
  induction xs with
  | nil => intro w; show (if doErr w x = 0 then 1 else 0) + 0 = 0 + _; rw [Nat.add_zero, Nat.zero_add]; rfl
  | cons y ys ih =>
    intro w
    show _ + doneN (doOr w y) (ys ++ [x]) = _ + doneN (doOr w y) ys + _
    rw [ih, Nat.add_assoc]
    rfl
theorem doneW_take (xs : List Ac) (k : Nat) (h : k < xs.length) : doneW (xs.take (k + 1)) = doOr (doneW (xs.take k)) xs[k] := by
  rw [List.take_add_one, List.getElem?_eq_getElem h]
  exact doneW_snoc _ _
theorem doneN_take (xs : List Ac) (k : Nat) (h : k < xs.length) : doneN noWd (xs.take (k + 1)) = doneN noWd (xs.take k) + if doErr (doneW (xs.take k)) xs[k] = 0 then 1 else 0 := by
  rw [List.take_add_one, List.getElem?_eq_getElem h]
  exact doneN_snoc _ _ _
theorem noWd_err : noWd.err = 0 := by decide
theorem doOr_err {w : Wd} (h : w.err = 0) (x : Ac) : (doOr w x).err = 0 := by
  unfold doOr
  split
  · rename_i he; exact (do_right he).2.1
  · exact h
theorem doneW_err : ∀ xs : List Ac, (doneW xs).err = 0 := list_snoc _ noWd_err fun xs x ih => by rw [doneW_snoc]; exact doOr_err ih x
end Go.Proofs.YtbfefocehnafgaaGreat.B
