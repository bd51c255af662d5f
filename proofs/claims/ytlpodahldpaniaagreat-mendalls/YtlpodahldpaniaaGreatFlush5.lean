/- What lies on the disk is told by the safe log: pages that are laid, and more that is safe. No Go in sight. -/
import Derived.Test.YtlpodahldpaniaaGreatFlush1
namespace Go.Proofs.YtlpodahldpaniaaGreat.B
set_option maxRecDepth 100000

theorem pgAt_other {ps : List Int} {i k : Nat} (h : k < i * 4 ∨ i * 4 + 4 ≤ k) (v : Int) : pgAt (ps.set k v) i = pgAt ps i := by
  unfold pgAt
  rw [getD_set, getD_set, getD_set, getD_set, if_neg (by omega), if_neg (by omega), if_neg (by omega), if_neg (by omega)]
/-- A page is what the log told of it up to its last record. -/
theorem page_told (i : Nat) (hi : i < 3) : ∀ l, Right l → (0 ≤ (pgAt (pagesR l) i).last ∧ (pgAt (pagesR l) i).last ≤ (l.length : Nat)) ∧ pgAt (pagesR (l.take (pgAt (pagesR l) i).last.toNat)) i = pgAt (pagesR l) i := right_ind _
  (by
    have hc : i = 0 ∨ i = 1 ∨ i = 2 := by omega
    rcases hc with rfl | rfl | rfl <;> exact ⟨⟨by decide, by decide⟩, rfl⟩)
  fun l r hR ih he hf => by
    obtain ⟨⟨h1, h2⟩, h3⟩ := ih
    by_cases same : turns r = true ∧ r.page = (i : Nat)
    · obtain ⟨ht, hp⟩ := same
      have hfit := recErr_fits he ht
      have hl := pagesR_len l
      have hlast : (pgAt (pagesR (l ++ [r])) i).last = (l.length : Int) + 1 := by
        show (pagesR (l ++ [r])).getD (i * 4 + 3) 0 = _
        rw [pagesR_snoc, if_pos ht, getD_set, if_pos (by rw [List.length_set, hl]; omega)]
      rw [hlast]
      refine ⟨⟨by omega, by simp⟩, ?_⟩
      rw [show ((l.length : Int) + 1).toNat = (l ++ [r]).length from by simp, List.take_length]
    · have hpg : pgAt (pagesR (l ++ [r])) i = pgAt (pagesR l) i := by
        rw [pagesR_snoc]
        by_cases ht : turns r = true
        · have hfit := recErr_fits he ht
          have hne : r.page ≠ (i : Nat) := fun e => same ⟨ht, e⟩
          rw [if_pos ht, pgAt_other (by omega), pgAt_other (by omega)]
        · rw [if_neg ht]
      rw [hpg]
      refine ⟨⟨h1, by simp only [List.length_append, List.length_singleton]; omega⟩, ?_⟩
      rw [List.take_append_of_le_length (by omega)]
      exact h3
theorem maxI_le_left (a b : Int) : a ≤ maxI a b := by unfold maxI; split <;> omega
theorem maxI_le_right (a b : Int) : b ≤ maxI a b := by unfold maxI; split <;> omega
theorem maxI_le {a b c : Int} (h1 : a ≤ c) (h2 : b ≤ c) : maxI a b ≤ c := by unfold maxI; split <;> omega
theorem untold_more {l : List Rc} {safe safe' : Int} {i : Nat} {d : Pg} (h : untoldB l safe i d = false) (hs : safe ≤ (l.length : Nat)) (hs' : safe ≤ safe') : untoldB l safe' i d = false := by
  have := untold_app (m := []) h hs hs'
  rwa [List.append_nil] at this
theorem world_more {p q r : Pg} {l : List Rc} {safe safe' : Int} (h : worldErr p q r l safe = 0) (hs : safe ≤ safe') (hs' : safe' ≤ (l.length : Nat)) : worldErr p q r l safe' = 0 := by
  have := world_app (m := []) (safe' := safe') h (by rw [List.append_nil]; exact (worldErr_zero h).1) hs (by rw [List.append_nil]; exact hs')
  rwa [List.append_nil] at this
theorem untold_laid {l : List Rc} (hR : Right l) {safe : Int} {i : Nat} (hi : i < 3) (hs : (pgAt (pagesR l) i).last ≤ safe) : untoldB l safe i (pgAt (pagesR l) i) = false := by
  obtain ⟨⟨h1, _⟩, h3⟩ := page_told i hi l hR
  unfold untoldB
  rw [h3, eqPg_refl, out1_ok h1 hs]
  rfl
theorem untold_lay {l : List Rc} (hR : Right l) {safe x : Int} {i : Nat} (hi : i < 3) {d : Pg} (h : untoldB l safe i d = false) (hs : safe ≤ (l.length : Nat)) : untoldB l (laySafe l safe x) i (layPg l x i d) = false := by
  unfold layPg
  by_cases hx : x = (i : Nat)
  · rw [if_pos hx]
    refine untold_laid hR hi ?_
    unfold laySafe
    rw [hx, Int.toNat_natCast]
    exact maxI_le_right _ _
  · rw [if_neg hx]
    exact untold_more h hs (maxI_le_left _ _)
/-- What a page that is laid leaves of a right world. -/
theorem world_lay {p q r : Pg} {l : List Rc} {safe x : Int} (h : worldErr p q r l safe = 0) (hx : 0 ≤ x ∧ x ≤ 2) : worldErr (layPg l x 0 p) (layPg l x 1 q) (layPg l x 2 r) l (laySafe l safe x) = 0 ∧ safe ≤ laySafe l safe x := by
  obtain ⟨hl, h2, h3⟩ := worldErr_zero h
  obtain ⟨h4, h5⟩ := out1_false h2
  have hR := (logErr_zero hl).2
  simp only [untoldTo, Bool.or_eq_false_iff, Bool.false_or] at h3
  have hle : laySafe l safe x ≤ (l.length : Nat) := by
    refine maxI_le h5 ?_
    obtain ⟨k, rfl⟩ : ∃ k : Nat, x = k := ⟨x.toNat, by omega⟩
    have := (page_told k (by omega) l hR).1.2
    rw [Int.toNat_natCast]
    exact this
  have hge : safe ≤ laySafe l safe x := maxI_le_left _ _
  refine ⟨worldErr_none hl (out1_ok (by omega) hle) ?_, hge⟩
  simp only [untoldTo, Bool.or_eq_false_iff, Bool.false_or]
  exact ⟨⟨untold_lay hR (by decide) h3.1.1 h5, untold_lay hR (by decide) h3.1.2 h5⟩, untold_lay hR (by decide) h3.2 h5⟩
/-- No page that lies there has a last record that is not safe. -/
theorem world_last {p q r : Pg} {l : List Rc} {safe : Int} (h : worldErr p q r l safe = 0) : p.last ≤ safe ∧ q.last ≤ safe ∧ r.last ≤ safe := by
  obtain ⟨_, _, h3⟩ := worldErr_zero h
  simp only [untoldTo, Bool.or_eq_false_iff, Bool.false_or] at h3
  have f : ∀ {i : Nat} {d : Pg}, untoldB l safe i d = false → d.last ≤ safe := fun {i d} hd => by
    unfold untoldB at hd
    simp only [Bool.or_eq_false_iff] at hd
    exact (out1_false hd.1).2
  exact ⟨f h3.1.1, f h3.1.2, f h3.2⟩
/-- All that FlushTrue asks, of a Sync that is done, and of a page that is laid then. -/
theorem flush_all {p q r : Pg} {l : List Rc} {safe n : Int} (h : errOf (worldErr p q r l safe) (syncErr l n) = 0) (c : Nat) (hc : c < 3) :
    worldErr p q r l safe = 0 ∧ logErr l = 0 ∧ worldErr p q r l (maxI safe n) = 0 ∧ errOf (worldErr p q r l (maxI safe n)) (pageErr (c : Int)) = 0 ∧
      worldErr (layPg l c 0 p) (layPg l c 1 q) (layPg l c 2 r) l (laySafe l (maxI safe n) c) = 0 ∧ safe ≤ maxI safe n ∧ n ≤ maxI safe n ∧ maxI safe n ≤ laySafe l (maxI safe n) c := by
  obtain ⟨hz, he⟩ := errOf_zero h
  have hs := (out1_false (worldErr_zero hz).2.1).2
  have hn : n ≤ (l.length : Nat) := by
    cases ho : out 0 (l.length : Nat) [n]
    · exact (out1_false ho).2
    · unfold syncErr at he; rw [ho] at he; cases he
  have hz2 := world_more hz (maxI_le_left safe n) (maxI_le hs hn)
  have hp : pageErr (c : Int) = 0 := by unfold pageErr; rw [out1_ok (by omega) (by omega)]; rfl
  obtain ⟨h5, h6⟩ := world_lay (x := (c : Int)) hz2 ⟨by omega, by omega⟩
  exact ⟨hz, (worldErr_zero hz).1, hz2, by unfold errOf; rw [if_pos hz2]; exact hp, h5, maxI_le_left _ _, maxI_le_right _ _, h6⟩
end Go.Proofs.YtlpodahldpaniaaGreat.B
