/- What must be, as a plain function of a list of records; what right logs keep of it: it turns by a Commit alone, and, if nobody hangs, it is what the cells are. No Go in sight. -/
import Derived.Test.YtgojonhjhdbpkaaChain2
namespace Go.Proofs.Ytgojonhjhdbpkaa.B
set_option maxRecDepth 100000

/-- Who has a Commit, in the order of these. -/
def winsR (l : List Rc) : List Int := foldI (fun ws _ r => if r.kind == 2 then ws ++ [r.txn] else ws) [] 0 l
theorem winsR_snoc (l : List Rc) (r : Rc) : winsR (l ++ [r]) = if r.kind == 2 then winsR l ++ [r.txn] else winsR l := foldI_snoc _ _ _ _
theorem winsR_take (l : List Rc) (k : Nat) (h : k < l.length) : winsR (l.take (k + 1)) = if l[k].kind == 2 then winsR (l.take k) ++ [l[k].txn] else winsR (l.take k) := foldI_take _ _ _ _ h
theorem winsR_le : ∀ l : List Rc, (winsR l).length ≤ l.length := list_snoc _ (Nat.le_refl _) fun l r ih => by
  rw [winsR_snoc]; simp only [List.length_append, List.length_singleton]; split
  · simp only [List.length_append, List.length_singleton]; omega
  · omega
theorem wins_count (t : Int) : ∀ l : List Rc, (winsR l).contains t = decide (0 < countR l t 2) := list_snoc _ rfl fun l r ih => by
  rw [winsR_snoc, countR_snoc]
  cases hk : (r.kind == 2)
  · simpa using ih
  · by_cases ht : r.txn = t
    · subst ht; simp
    · have hb : (r.txn == t) = false := by simpa using ht
      have hb2 : (t == r.txn) = false := by simpa using (fun e => ht e.symm : t ≠ r.txn)
      simp only [hb, Bool.false_and, Bool.false_eq_true, if_false, if_true]
      rw [← ih]
      simp only [List.contains_eq_any_beq, List.any_append, List.any_cons, List.any_nil, hb2, Bool.or_false]
/-- What those wrote last, of whom it is asked: nine numbers, three a page. -/
def cellsBy (win : Int → Bool) (l : List Rc) : List Int := foldI (fun cs _ r => if r.kind == 1 && win r.txn then cs.set (r.page.toNat * 3 + r.cell.toNat) r.new else cs) (List.replicate 9 0) 0 l
theorem cellsBy_snoc (win : Int → Bool) (l : List Rc) (r : Rc) : cellsBy win (l ++ [r]) = if r.kind == 1 && win r.txn then (cellsBy win l).set (r.page.toNat * 3 + r.cell.toNat) r.new else cellsBy win l := foldI_snoc _ _ _ _
theorem cellsBy_take (win : Int → Bool) (l : List Rc) (k : Nat) (h : k < l.length) : cellsBy win (l.take (k + 1)) = if l[k].kind == 1 && win l[k].txn then (cellsBy win (l.take k)).set (l[k].page.toNat * 3 + l[k].cell.toNat) l[k].new else cellsBy win (l.take k) := foldI_take _ _ _ _ h
theorem cellsBy_len (win : Int → Bool) : ∀ l : List Rc, (cellsBy win l).length = 9 := list_snoc _ rfl fun l r ih => by
  rw [cellsBy_snoc]; split
  · simpa using ih
  · exact ih
theorem cellsBy_congr {win win' : Int → Bool} : ∀ l : List Rc, (∀ r ∈ l, r.kind = 1 → win r.txn = win' r.txn) → cellsBy win l = cellsBy win' l := list_snoc _ (fun _ => rfl) fun l r ih h => by
  rw [cellsBy_snoc, cellsBy_snoc, ih fun x hx => h x (by simp [hx])]
  by_cases k : r.kind = 1
  · rw [h r (by simp) k]
  · have hb : (r.kind == 1) = false := by simpa using k
    rw [hb]; rfl
/-- Has the Txn a Commit? -/
def wonB (l : List Rc) (t : Int) : Bool := decide (0 < countR l t 2)
/-- What must be. -/
def cellsR (l : List Rc) : List Int := cellsBy (wonB l) l
theorem cellsR_len (l : List Rc) : (cellsR l).length = 9 := cellsBy_len _ l
def cellW (win : Int → Bool) (l : List Rc) (p : Int × Int) : Int := (cellsBy win l).getD (p.1.toNat * 3 + p.2.toNat) 0
/-- What a cell must be. -/
def mustR (l : List Rc) (p : Int × Int) : Int := (cellsR l).getD (p.1.toNat * 3 + p.2.toNat) 0
theorem mustR_eq (l : List Rc) (p : Int × Int) : mustR l p = cellW (wonB l) l p := rfl
theorem cellW_snoc {win : Int → Bool} {l : List Rc} {r : Rc} {n : Int} (he : recErr n r = 0) {p : Int × Int} (hp : InP p) : cellW win (l ++ [r]) p = if r.kind = 1 ∧ win r.txn = true ∧ p = (r.page, r.cell) then r.new else cellW win l p := by
  unfold cellW
  rw [cellsBy_snoc]
  by_cases k : r.kind = 1
  · have hf := recErr_fits he (turns_of.2 (Or.inl k))
    cases hw : win r.txn
    · simp
    · obtain ⟨p1, p2⟩ := p
      obtain ⟨h1, h2, h3, h4⟩ := hp
      dsimp only at h1 h2 h3 h4 ⊢
      rw [k]
      simp only [beq_self_eq_true, Bool.and_self, if_true, true_and]
      rw [getD_set, cellsBy_len]
      by_cases e : (p1, p2) = (r.page, r.cell)
      · rw [if_pos e]
        obtain ⟨e1, e2⟩ := Prod.mk.inj e
        rw [if_pos (by rw [e1, e2]; omega)]
      · rw [if_neg e, if_neg]
        rintro ⟨h, _⟩
        exact e (Prod.ext (by dsimp only; omega) (by dsimp only; omega))
  · have hb : (r.kind == 1) = false := by simpa using k
    rw [hb, Bool.false_and, if_neg Bool.false_ne_true, if_neg (fun x : r.kind = 1 ∧ win r.txn = true ∧ p = (r.page, r.cell) => k x.1)]
/-- Two rows of nine numbers, cell by cell. -/
theorem cells_ext {a b : List Int} (ha : a.length = 9) (hb : b.length = 9) (h : ∀ p, InP p → a.getD (p.1.toNat * 3 + p.2.toNat) 0 = b.getD (p.1.toNat * 3 + p.2.toNat) 0) : a = b := by
  match a, ha, b, hb with
  | [a0, a1, a2, a3, a4, a5, a6, a7, a8], _, [b0, b1, b2, b3, b4, b5, b6, b7, b8], _ =>
    have h0 := h (0, 0) (by decide)
    have h1 := h (0, 1) (by decide)
    have h2 := h (0, 2) (by decide)
    have h3 := h (1, 0) (by decide)
    have h4 := h (1, 1) (by decide)
    have h5 := h (1, 2) (by decide)
    have h6 := h (2, 0) (by decide)
    have h7 := h (2, 1) (by decide)
    have h8 := h (2, 2) (by decide)
    simp at h0 h1 h2 h3 h4 h5 h6 h7 h8
    subst h0 h1 h2 h3 h4 h5 h6 h7 h8
    rfl
theorem wonB_other {l : List Rc} {r : Rc} (k : r.kind ≠ 2) : wonB (l ++ [r]) = wonB l := by
  funext t
  have hb : (r.kind == 2) = false := by simpa using k
  unfold wonB
  rw [countR_snoc, hb, Bool.and_false]; rfl
theorem wonB_commit {l : List Rc} {r : Rc} (k : r.kind = 2) : wonB (l ++ [r]) = fun t => wonB l t || r.txn == t := by
  funext t
  unfold wonB
  rw [countR_snoc, k, beq_self_eq_true, Bool.and_true]
  cases r.txn == t <;> simp
/-- What must be turns by a Commit alone. -/
theorem cellsR_other {l : List Rc} {r : Rc} (hf : followsR l r = true) (k : r.kind ≠ 2) : cellsR (l ++ [r]) = cellsR l := by
  unfold cellsR
  rw [wonB_other k, cellsBy_snoc]
  by_cases k1 : r.kind = 1
  · obtain ⟨_, s4, s2, _⟩ := follows_ok hf
    have hc := state_not2 s4 (fun e => by have := s2 e; omega)
    have : wonB l r.txn = false := by unfold wonB; rw [hc]; rfl
    rw [this, Bool.and_false]; rfl
  · have hb : (r.kind == 1) = false := by simpa using k1
    rw [hb]; rfl
theorem cellsR_commit (l : List Rc) {r : Rc} (k : r.kind = 2) : cellsR (l ++ [r]) = cellsBy (fun t => wonB l t || r.txn == t) l := by
  unfold cellsR
  rw [wonB_commit k, cellsBy_snoc, k]; rfl
theorem held0 {l : List Rc} {t : Int} (h : stateR l t = 0) (p : Int × Int) : heldBy l p t = 0 := by
  have h0 : lastR l t = 0 := by
    by_cases h0 : lastR l t = 0
    · exact h0
    · unfold stateR at h
      rw [if_neg h0] at h
      split at h
      · omega
      · split at h
        · omega
        · split at h <;> omega
  by_cases hh : heldBy l p t = 0
  · exact hh
  · obtain ⟨r, hr, _⟩ := held_pos.1 (show 0 < heldBy l p t by omega)
    obtain ⟨h1, h2, _⟩ := standB_mem hr
    exact absurd h2 (last_none t l h0 r h1)
theorem follows_end {l : List Rc} {r : Rc} (k : r.kind = 4) (hf : followsR l r = true) : stateR l r.txn = 2 ∨ (stateR l r.txn = 3 ∧ standB l r.txn = []) := by
  unfold followsR at hf
  split at hf
  · cases hf
  · simp only [k, show ((4 : Int) == 1) = false from rfl, show ((4 : Int) == 2) = false from rfl, show ((4 : Int) == 3) = false from rfl, Bool.false_eq_true, if_false, Bool.or_eq_true, beq_iff_eq, Bool.and_eq_true, List.isEmpty_iff] at hf
    rcases hf with h | ⟨h3, hs⟩
    · exact Or.inl h
    · refine Or.inr ⟨h3, ?_⟩
      rw [stand_of_n4 (by omega)]
      unfold standRecs
      rw [hs]; rfl
theorem held_write {l : List Rc} {r : Rc} (he : recErr (l.length + 1 : Nat) r = 0) (hf : followsR l r = true) (k : r.kind = 1) (p : Int × Int) : heldBy (l ++ [r]) p r.txn = if p = (r.page, r.cell) then heldBy l p r.txn + 1 else heldBy l p r.txn := by
  rw [heldBy_cnt, standB_write he hf k, cnt_snoc]; rfl
/-- Who holds a cell keeps others from turning it. -/
theorem cell_kept {l : List Rc} {r : Rc} (hR : Right l) (he : recErr (l.length + 1 : Nat) r = 0) (hf : followsR l r = true) {p : Int × Int} (hp : InP p) {t : Int} (ht : r.txn ≠ t) (h : 0 < heldBy l p t) : ¬ (turns r = true ∧ p = (r.page, r.cell)) ∧ cellR (l ++ [r]) p = cellR l p := by
  have hn : ¬ (turns r = true ∧ p = (r.page, r.cell)) := by
    rintro ⟨h1, h2⟩
    rcases turns_of.1 h1 with k | k
    · have := taken_none hR (follows_write k hf) (u := t) (fun e => ht e.symm)
      rw [← h2] at this; omega
    · obtain ⟨st, w, hst, e1, e2, _⟩ := back_last' hf k
      have : 0 < heldBy l p r.txn := by rw [heldBy_cnt, hst, cnt_snoc, if_pos (by rw [h2, e1, e2])]; omega
      exact ht (right_alone l hR p r.txn t this h)
  exact ⟨hn, by rw [cellR_snoc he hp, if_neg hn]⟩
theorem state01 {l : List Rc} {r : Rc} (hf : followsR l r = true) (k : r.kind = 1 ∨ r.kind = 2) : stateR l r.txn = 0 ∨ stateR l r.txn = 1 := by
  obtain ⟨_, s4, s2, s3⟩ := follows_ok hf
  have n2 : stateR l r.txn ≠ 2 := fun e => by have := s2 e; omega
  have n3 : stateR l r.txn ≠ 3 := fun e => by have := s3 e; omega
  have := stateR_range l r.txn
  omega
/-- With one Txn more that wins, and that has Writes alone: what that has written is what the cells are. -/
theorem cellW_one (win : Int → Bool) (t : Int) : ∀ l, Right l → (stateR l t = 0 ∨ stateR l t = 1) → ∀ p, InP p → cellW (fun u => win u || t == u) l p = if 0 < heldBy l p t then cellR l p else cellW win l p := right_ind _
  (fun _ p _ => by rw [heldBy_cnt, stand_nil']; rfl)
  fun l r hR ih he hf hs p hp => by
    rw [stateR_snoc he hf] at hs
    rw [cellW_snoc he hp, cellW_snoc he hp]
    by_cases ht : r.txn = t
    · rw [if_pos ht] at hs
      have hk := recErr_kind he
      have k : r.kind = 1 := by omega
      have hs0 := state01 hf (Or.inl k)
      subst ht
      rw [held_write he hf k]
      by_cases e : p = (r.page, r.cell)
      · rw [if_pos ⟨k, by simp, e⟩, if_pos e, if_pos (by omega), cellR_snoc he hp, if_pos ⟨turns_of.2 (Or.inl k), e⟩]
      · have hn : ¬ (r.kind = 1 ∧ win r.txn = true ∧ p = (r.page, r.cell)) := fun x => e x.2.2
        have hn2 : ¬ (turns r = true ∧ p = (r.page, r.cell)) := fun x => e x.2
        rw [if_neg (fun x => e x.2.2), if_neg e, ih hs0 p hp, cellR_snoc he hp, if_neg hn2, if_neg hn]
    · rw [if_neg ht] at hs
      have hb : (t == r.txn) = false := by simpa using (fun e => ht e.symm : t ≠ r.txn)
      simp only [hb, Bool.or_false]
      rw [held_other he hf ht, ih hs p hp]
      by_cases h0 : 0 < heldBy l p t
      · obtain ⟨hn, hc⟩ := cell_kept hR he hf hp ht h0
        rw [if_pos h0, if_pos h0, if_neg (fun x => hn ⟨turns_of.2 (Or.inl x.1), x.2.2⟩), hc]
      · rw [if_neg h0, if_neg h0]
theorem mustR_commit {l : List Rc} {r : Rc} (hR : Right l) (hf : followsR l r = true) (k : r.kind = 2) {p : Int × Int} (hp : InP p) : mustR (l ++ [r]) p = if 0 < heldBy l p r.txn then cellR l p else mustR l p := by
  rw [mustR, cellsR_commit l k]
  exact cellW_one (wonB l) r.txn l hR (state01 hf (Or.inr k)) p hp
theorem mustR_other {l : List Rc} {r : Rc} (hf : followsR l r = true) (k : r.kind ≠ 2) (p : Int × Int) : mustR (l ++ [r]) p = mustR l p := by
  rw [mustR, cellsR_other hf k]; rfl
/-- Does it hang? -/
abbrev Hangs (l : List Rc) (t : Int) : Prop := stateR l t = 1 ∨ stateR l t = 3
/-- From what must be, the Writes of who hangs and holds the cell lead to what it is; if nobody such holds it, it is what must be. -/
def Must (l : List Rc) : Prop := ∀ p, InP p → (∀ t, Hangs l t → 0 < heldBy l p t → linked (mustR l p) (atP (standB l t) p) (cellR l p)) ∧ ((∀ t, Hangs l t → heldBy l p t = 0) → mustR l p = cellR l p)
theorem right_must : ∀ l, Right l → Must l := right_ind _
  (fun p hp => ⟨fun t _ h => by rw [heldBy_cnt, stand_nil'] at h; exact absurd h (Nat.lt_irrefl 0), fun _ => by
    obtain ⟨p1, p2⟩ := p
    obtain ⟨h1, h2, h3, h4⟩ := hp
    dsimp only at h1 h2 h3 h4
    have hp1 : p1 = 0 ∨ p1 = 1 ∨ p1 = 2 := by omega
    have hp2 : p2 = 0 ∨ p2 = 1 ∨ p2 = 2 := by omega
    rcases hp1 with rfl | rfl | rfl <;> rcases hp2 with rfl | rfl | rfl <;> rfl⟩)
  fun l r hR ih he hf p hp => by
    obtain ⟨i1, i2⟩ := ih p hp
    rcases recErr_kind he with k | k | k | k
    · -- a Write
      rw [mustR_other hf (by omega)]
      have hs := state01 hf (Or.inl k)
      have hheld : ∀ q, 0 < heldBy l q r.txn → stateR l r.txn = 1 := fun q h => by
        rcases hs with h0 | h1
        · have := held0 h0 q; omega
        · exact h1
      by_cases e : p = (r.page, r.cell)
      · have hno : ∀ u, u ≠ r.txn → heldBy l p u = 0 := fun u hu => by have := taken_none hR (follows_write k hf) hu; rw [← e] at this; exact this
        have hlink : linked (mustR l p) (atP (standB l r.txn) p) r.old := by
          rw [follows_old k hf, ← e]
          by_cases h0 : 0 < heldBy l p r.txn
          · exact i1 r.txn (Or.inl (hheld p h0)) h0
          · rw [atP_none (by omega)]
            refine i2 fun t _ => ?_
            by_cases ht : t = r.txn
            · rw [ht]; omega
            · exact hno t ht
        refine ⟨fun t _ h => ?_, fun h => ?_⟩
        · by_cases ht : r.txn = t
          · subst ht
            rw [standB_write he hf k, atP_snoc, if_pos e, linked_snoc, cellR_snoc he hp, if_pos ⟨turns_of.2 (Or.inl k), e⟩]
            exact ⟨hlink, rfl⟩
          · rw [held_other he hf ht, hno t (fun x => ht x.symm)] at h
            exact absurd h (Nat.lt_irrefl 0)
        · have := h r.txn (Or.inl (by rw [stateR_snoc he hf, if_pos rfl, k]))
          rw [held_write he hf k, if_pos e] at this
          omega
      · have hc : cellR (l ++ [r]) p = cellR l p := by rw [cellR_snoc he hp, if_neg (fun x => e x.2)]
        rw [hc]
        have hh : ∀ t, heldBy (l ++ [r]) p t = heldBy l p t := fun t => by
          by_cases ht : r.txn = t
          · subst ht; rw [held_write he hf k, if_neg e]
          · rw [held_other he hf ht]
        refine ⟨fun t hg h => ?_, fun h => i2 fun t hg => ?_⟩
        · rw [hh] at h
          by_cases ht : r.txn = t
          · subst ht
            rw [standB_write he hf k, atP_snoc, if_neg e]
            exact i1 _ (Or.inl (hheld p h)) h
          · rw [standB_other he hf ht]
            refine i1 t ?_ h
            simpa only [Hangs, stateR_snoc he hf, if_neg ht] using hg
        · rw [← hh]
          refine h t ?_
          by_cases ht : r.txn = t
          · exact Or.inl (by rw [stateR_snoc he hf, if_pos ht, k])
          · simpa only [Hangs, stateR_snoc he hf, if_neg ht] using hg
    · -- a Commit
      have hc : cellR (l ++ [r]) p = cellR l p := by rw [cellR_snoc he hp, if_neg (fun x => by have := turns_of.1 x.1; omega)]
      rw [mustR_commit hR hf k hp, hc]
      have hst : ∀ t, standB (l ++ [r]) t = standB l t := fun t => by
        by_cases ht : r.txn = t
        · subst ht; rw [standB_commit he hf k]
        · rw [standB_other he hf ht]
      have hh : ∀ t, heldBy (l ++ [r]) p t = heldBy l p t := fun t => by rw [heldBy_cnt, hst]; rfl
      have hng : ∀ t, Hangs (l ++ [r]) t → r.txn ≠ t ∧ Hangs l t := fun t hg => by
        by_cases ht : r.txn = t
        · simp only [Hangs, stateR_snoc he hf, if_pos ht] at hg; omega
        · exact ⟨ht, by simpa only [Hangs, stateR_snoc he hf, if_neg ht] using hg⟩
      refine ⟨fun t hg h => ?_, fun h => ?_⟩
      · obtain ⟨ht, hg⟩ := hng t hg
        rw [hh] at h
        rw [hst, if_neg (fun h2 => ht (right_alone l hR p r.txn t h2 h))]
        exact i1 t hg h
      · by_cases h0 : 0 < heldBy l p r.txn
        · rw [if_pos h0]
        · rw [if_neg h0]
          refine i2 fun t hg => ?_
          by_cases ht : r.txn = t
          · rw [← ht]; omega
          · rw [← hh]
            exact h t (by simpa only [Hangs, stateR_snoc he hf, if_neg ht] using hg)
    · -- a Back
      rw [mustR_other hf (by omega)]
      obtain ⟨_, s4, s2, _⟩ := follows_ok hf
      obtain ⟨st, w, hst, e1, e2, e3⟩ := back_last' hf k
      have hnew : standB (l ++ [r]) r.txn = st := by rw [standB_back hR he hf k, hst, List.dropLast_concat]
      have hhold : 0 < heldBy l (r.page, r.cell) r.txn := by rw [heldBy_cnt, hst, cnt_snoc, if_pos (by rw [e1, e2])]; omega
      have hu : Hangs l r.txn := by
        have h2 : stateR l r.txn ≠ 2 := fun e => by have := s2 e; omega
        have h0 : stateR l r.txn ≠ 0 := fun e => by have := held0 e (r.page, r.cell); omega
        have := stateR_range l r.txn
        rcases this with h | h | h | h | h
        · exact absurd h h0
        · exact Or.inl h
        · exact absurd h h2
        · exact Or.inr h
        · exact absurd h s4
      have hu' : Hangs (l ++ [r]) r.txn := Or.inr (by rw [stateR_snoc he hf, if_pos rfl, k])
      by_cases e : p = (r.page, r.cell)
      · have hlink : linked (mustR l p) (atP (standB (l ++ [r]) r.txn) p) (cellR (l ++ [r]) p) := by
          have := i1 r.txn hu (by rw [e]; exact hhold)
          rw [hst, atP_snoc, if_pos (by rw [e, e1, e2]), linked_snoc] at this
          rw [hnew, cellR_snoc he hp, if_pos ⟨turns_of.2 (Or.inr k), e⟩, e3]
          exact this.1
        refine ⟨fun t hg h => ?_, fun h => ?_⟩
        · by_cases ht : r.txn = t
          · subst ht; exact hlink
          · rw [held_other he hf ht] at h
            exact absurd (right_alone l hR p r.txn t (by rw [e]; exact hhold) h) ht
        · rw [atP_none (h r.txn hu')] at hlink
          exact hlink
      · have hc : cellR (l ++ [r]) p = cellR l p := by rw [cellR_snoc he hp, if_neg (fun x => e x.2)]
        rw [hc]
        have hat : ∀ t, atP (standB (l ++ [r]) t) p = atP (standB l t) p := fun t => by
          by_cases ht : r.txn = t
          · subst ht; rw [hnew, hst, atP_snoc, if_neg (fun x => e (by rw [x, e1, e2]))]
          · rw [standB_other he hf ht]
        have hh : ∀ t, heldBy (l ++ [r]) p t = heldBy l p t := fun t => congrArg List.length (hat t)
        have hng : ∀ t, Hangs (l ++ [r]) t ↔ Hangs l t := fun t => by
          by_cases ht : r.txn = t
          · subst ht; exact ⟨fun _ => hu, fun _ => hu'⟩
          · simp only [Hangs, stateR_snoc he hf, if_neg ht]
        refine ⟨fun t hg h => ?_, fun h => i2 fun t hg => ?_⟩
        · rw [hat]; rw [hh] at h; exact i1 t ((hng t).1 hg) h
        · rw [← hh]; exact h t ((hng t).2 hg)
    · -- an End
      rw [mustR_other hf (by omega)]
      have hc : cellR (l ++ [r]) p = cellR l p := by rw [cellR_snoc he hp, if_neg (fun x => by have := turns_of.1 x.1; omega)]
      rw [hc]
      have hng : ∀ t, Hangs (l ++ [r]) t → r.txn ≠ t ∧ Hangs l t := fun t hg => by
        by_cases ht : r.txn = t
        · simp only [Hangs, stateR_snoc he hf, if_pos ht] at hg; omega
        · exact ⟨ht, by simpa only [Hangs, stateR_snoc he hf, if_neg ht] using hg⟩
      refine ⟨fun t hg h => ?_, fun h => i2 fun t hg => ?_⟩
      · obtain ⟨ht, hg⟩ := hng t hg
        rw [standB_other he hf ht]
        rw [held_other he hf ht] at h
        exact i1 t hg h
      · by_cases ht : r.txn = t
        · subst ht
          rcases follows_end k hf with h2 | ⟨_, hs⟩
          · rcases hg with h | h <;> omega
          · rw [heldBy_cnt, hs]; rfl
        · rw [← held_other he hf ht]
          exact h t (by simpa only [Hangs, stateR_snoc he hf, if_neg ht] using hg)
/-- If nobody hangs, the cells are what must be. -/
theorem right_calm {l : List Rc} (hR : Right l) (h : ∀ t, 1 ≤ t → t ≤ 9 → ¬ Hangs l t) {p : Int × Int} (hp : InP p) : mustR l p = cellR l p := by
  refine (right_must l hR p hp).2 fun t hg => ?_
  by_cases h1 : 1 ≤ t ∧ t ≤ 9
  · exact absurd hg (h t h1.1 h1.2)
  · by_cases hh : heldBy l p t = 0
    · exact hh
    · obtain ⟨r, hr, _⟩ := held_pos.1 (show 0 < heldBy l p t by omega)
      obtain ⟨hm, ht, _⟩ := standB_mem hr
      have := right_txn l hR r hm
      rw [ht] at this
      exact absurd this h1
end Go.Proofs.Ytgojonhjhdbpkaa.B
