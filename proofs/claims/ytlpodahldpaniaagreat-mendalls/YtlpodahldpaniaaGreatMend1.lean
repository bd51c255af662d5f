/- Worlds behind a crash, and mended, half or all: right, and what must be. No Go in sight. -/
import Derived.Test.YtlpodahldpaniaaGreatMend0
import Derived.Test.YtlpodahldpaniaaGreatScan0
namespace Go.Proofs.YtlpodahldpaniaaGreat.B
set_option maxRecDepth 100000

theorem untold_cut {l : List Rc} {safe : Int} {i : Nat} {d : Pg} (h : untoldB l safe i d = false) : untoldB (l.take safe.toNat) safe i d = false := by
  obtain ⟨h1, h2, h3⟩ := untold_told h
  unfold untoldB
  rw [out1_ok h1 h2, List.take_take, show min d.last.toNat safe.toNat = d.last.toNat from by omega, h3, eqPg_refl]
  rfl
/-- Behind a crash the world is right, and all of its log is safe. -/
theorem world_cut {p q r : Pg} {l : List Rc} {safe : Int} (h : worldErr p q r l safe = 0) : worldErr p q r (l.take safe.toNat) safe = 0 ∧ (((l.take safe.toNat).length : Nat) : Int) = safe := by
  obtain ⟨hl, h2, h3⟩ := worldErr_zero h
  obtain ⟨h4, h5⟩ := out1_false h2
  have hlen : (((l.take safe.toNat).length : Nat) : Int) = safe := by rw [List.length_take_of_le (by omega)]; omega
  simp only [untoldTo, Bool.or_eq_false_iff, Bool.false_or] at h3
  refine ⟨worldErr_none (logErr_pre hl _) (out1_ok h4 (by omega)) ?_, hlen⟩
  simp only [untoldTo, Bool.or_eq_false_iff, Bool.false_or]
  exact ⟨⟨untold_cut h3.1.1, untold_cut h3.1.2⟩, untold_cut h3.2⟩
/-- A page, laid or left. -/
def laidPg (l : List Rc) (b : Bool) (i : Nat) (d : Pg) : Pg := if b then pgAt (pagesR l) i else d
theorem untold_half {c m : List Rc} (hR : Right (c ++ m)) {safe : Int} {i : Nat} (hi : i < 3) {d : Pg} (h : untoldB c safe i d = false) (hs : safe ≤ (c.length : Nat)) (b : Bool) : untoldB (c ++ m) ((c ++ m).length : Nat) i (laidPg (c ++ m) b i d) = false := by
  unfold laidPg
  cases b
  · exact untold_app h hs (by rw [List.length_append]; omega)
  · exact untold_laid hR hi (page_told i hi _ hR).1.2
/-- More records behind the log, all of it safe, some pages laid: the world is right. -/
theorem world_half {p q r : Pg} {c m : List Rc} {safe : Int} (h : worldErr p q r c safe = 0) (hR : Right (c ++ m)) (b0 b1 b2 : Bool) : worldErr (laidPg (c ++ m) b0 0 p) (laidPg (c ++ m) b1 1 q) (laidPg (c ++ m) b2 2 r) (c ++ m) ((c ++ m).length : Nat) = 0 := by
  obtain ⟨_, h2, h3⟩ := worldErr_zero h
  obtain ⟨_, h5⟩ := out1_false h2
  simp only [untoldTo, Bool.or_eq_false_iff, Bool.false_or] at h3
  refine worldErr_none (logErr_of hR) (out1_ok (by omega) (Int.le_refl _)) ?_
  simp only [untoldTo, Bool.or_eq_false_iff, Bool.false_or]
  exact ⟨⟨untold_half hR (by decide) h3.1.1 h5 b0, untold_half hR (by decide) h3.1.2 h5 b1⟩, untold_half hR (by decide) h3.2 h5 b2⟩
/-- The document's error of mending, of a log all of which is safe. -/
def mendErr (l : List Rc) : Int := if 60 < l.length + needR l then 2 else 0
theorem mendErr_zero {l : List Rc} : mendErr l = 0 ↔ l.length + needR l ≤ 60 := by
  unfold mendErr
  split
  · exact ⟨fun h => (by cases h), fun h => (by omega)⟩
  · exact ⟨fun _ => by omega, fun _ => rfl⟩
/-- The cells of pages, nine of twelve. -/
theorem cells_must {l : List Rc} (hR : Right l) (h : isNext l = false) {i j : Nat} (hi : i < 3) (hj : j < 3) : (pagesR l).getD (i * 4 + j) 0 = (cellsR l).getD (i * 3 + j) 0 := by
  have := (mended_calm hR h).2 ((i : Nat), (j : Nat)) ⟨by omega, by dsimp only; omega, by omega, by dsimp only; omega⟩
  unfold mustR cellR at this
  simp only [Int.toNat_natCast] at this
  exact this.symm
/-- All that MendTrue and MendFew ask. -/
theorem mend_all {p q r : Pg} {l : List Rc} {safe : Int} (h : worldErr p q r l safe = 0) (he : mendErr (l.take safe.toNat) = 0) :
    Right (mendR (l.take safe.toNat)) ∧ (mendR (l.take safe.toNat)).length = safe.toNat + needR (l.take safe.toNat) ∧ (mendR (l.take safe.toNat)).length ≤ 60 ∧
      worldErr (pgAt (pagesR (mendR (l.take safe.toNat))) 0) (pgAt (pagesR (mendR (l.take safe.toNat))) 1) (pgAt (pagesR (mendR (l.take safe.toNat))) 2) (mendR (l.take safe.toNat)) ((mendR (l.take safe.toNat)).length : Nat) = 0 ∧
      losersR (mendR (l.take safe.toNat)) = [] ∧ needR (mendR (l.take safe.toNat)) = 0 ∧ mendR (mendR (l.take safe.toNat)) = mendR (l.take safe.toNat) ∧
      ∀ i j, i < 3 → j < 3 → (pagesR (mendR (l.take safe.toNat))).getD (i * 4 + j) 0 = (cellsR (l.take safe.toNat)).getD (i * 3 + j) 0 := by
  obtain ⟨hc, hlen⟩ := world_cut h
  have hR := (logErr_zero (worldErr_zero hc).1).2
  have hle := mendErr_zero.1 he
  obtain ⟨h1, h2, h3, h4, m, h5⟩ := mendR_all hR hle
  have hs : (l.take safe.toNat).length = safe.toNat := by omega
  have hn := need_zero.2 h2
  refine ⟨h1, by rw [h3, hs], by omega, ?_, (mended_calm h1 h2).1, hn, ?_, fun i j hi hj => by rw [cells_must h1 h2 hi hj, h4]⟩
  · have := world_half hc (h5 ▸ h1) true true true
    rw [← h5] at this
    exact this
  · show mendN (needR (mendR (l.take safe.toNat))) (mendR (l.take safe.toNat)) = _
    rw [hn]
    rfl
/-- All that MendOnce and MendOften ask of a step: half, and then all, is all at once. -/
theorem mend_half {p q r : Pg} {l : List Rc} {safe : Int} (h : worldErr p q r l safe = 0) (he : mendErr (l.take safe.toNat) = 0) (n : Nat) (b0 b1 b2 : Bool) :
    worldErr (laidPg (mendN n (l.take safe.toNat)) b0 0 p) (laidPg (mendN n (l.take safe.toNat)) b1 1 q) (laidPg (mendN n (l.take safe.toNat)) b2 2 r) (mendN n (l.take safe.toNat)) ((mendN n (l.take safe.toNat)).length : Nat) = 0 ∧
      (mendN n (l.take safe.toNat)).length ≤ 60 ∧ (mendN n (l.take safe.toNat)).take ((mendN n (l.take safe.toNat)).length : Int).toNat = mendN n (l.take safe.toNat) ∧ mendErr (mendN n (l.take safe.toNat)) = 0 ∧
      mendR (mendN n (l.take safe.toNat)) = mendR (l.take safe.toNat) ∧ needR (mendN n (l.take safe.toNat)) ≤ needR (l.take safe.toNat) := by
  obtain ⟨hc, hlen⟩ := world_cut h
  have hR := (logErr_zero (worldErr_zero hc).1).2
  have hle := mendErr_zero.1 he
  obtain ⟨h1, h2, h3, h4⟩ := mendR_part hR hle n
  have hpre : ∃ m, mendN n (l.take safe.toNat) = l.take safe.toNat ++ m := by
    rw [mendN_min n _ hR (by omega)]
    exact (mend_ind (fun k => ∃ m, k = l.take safe.toNat ++ m) (fun k _ _ _ ⟨m, hm⟩ => ⟨m ++ [mendRec k], by rw [hm, List.append_assoc]⟩) _ _ hR (by omega) (by omega) ⟨[], by simp⟩).2.1
  obtain ⟨m, hm⟩ := hpre
  refine ⟨?_, right_len _ h1, by rw [Int.toNat_natCast, List.take_length], mendErr_zero.2 (by omega), h2, h3⟩
  have := world_half hc (hm ▸ h1) b0 b1 b2
  rw [← hm] at this
  exact this
end Go.Proofs.YtlpodahldpaniaaGreat.B
