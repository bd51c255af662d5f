/- Mending, as plain functions of a log: the record that is next; all of them; how many; what they leave. No Go in sight. -/
import Derived.Test.YtlpodahldpaniaaGreatRoll5
namespace Go.Proofs.YtlpodahldpaniaaGreat.B
set_option maxRecDepth 100000

/-- All Txns there may be. -/
def txnsL : List Int := [1, 2, 3, 4, 5, 6, 7, 8, 9]
theorem txnsL_mem {t : Int} : t ∈ txnsL ↔ 1 ≤ t ∧ t ≤ 9 := by
  unfold txnsL
  simp only [List.mem_cons, List.not_mem_nil, or_false]
  omega
/-- Txns that hang, rising. -/
def losersR (l : List Rc) : List Int := txnsL.filter fun t => stateR l t == 1 || stateR l t == 3
theorem losersR_mem {l : List Rc} {t : Int} : t ∈ losersR l ↔ (1 ≤ t ∧ t ≤ 9) ∧ Hangs l t := by
  unfold losersR
  rw [List.mem_filter, txnsL_mem]
  simp only [Bool.or_eq_true, beq_iff_eq]
/-- One more is looked at: which one's last record is the greatest by now. -/
def betterR (l : List Rc) (b t : Int) : Int := if b = 0 ∨ lastR l b < lastR l t then t else b
def bestOf (l : List Rc) (ts : List Int) : Int := ts.foldl (betterR l) 0
def bestR (l : List Rc) : Int := bestOf l (losersR l)
theorem bestOf_snoc (l : List Rc) (ts : List Int) (t : Int) : bestOf l (ts ++ [t]) = betterR l (bestOf l ts) t := by unfold bestOf; rw [List.foldl_append]; rfl
theorem bestOf_mem (l : List Rc) : ∀ ts : List Int, (ts = [] ∧ bestOf l ts = 0) ∨ bestOf l ts ∈ ts := list_snoc _ (Or.inl ⟨rfl, rfl⟩) fun ts t ih => Or.inr (by
  rw [bestOf_snoc]
  unfold betterR
  split
  · simp
  · rename_i h
    rcases ih with ⟨_, h0⟩ | hm
    · exact absurd (Or.inl h0) h
    · exact List.mem_append_left _ hm)
theorem bestR_zero {l : List Rc} : bestR l = 0 ↔ losersR l = [] := by
  constructor
  · intro h
    rcases bestOf_mem l (losersR l) with ⟨h0, _⟩ | hm
    · exact h0
    · have : bestR l ∈ losersR l := hm
      rw [h, losersR_mem] at this
      omega
  · intro h
    unfold bestR
    rw [h]
    rfl
theorem bestR_mem {l : List Rc} (h : bestR l ≠ 0) : (1 ≤ bestR l ∧ bestR l ≤ 9) ∧ Hangs l (bestR l) := by
  rcases bestOf_mem l (losersR l) with ⟨_, h0⟩ | hm
  · exact absurd h0 h
  · exact losersR_mem.1 hm
/-- The first Txn that has a Commit and no End (0: none). -/
def firstR (l : List Rc) : Int := (txnsL.find? fun t => stateR l t == 2).getD 0
theorem firstR_zero {l : List Rc} : firstR l = 0 ↔ ∀ t, 1 ≤ t → t ≤ 9 → stateR l t ≠ 2 := by
  unfold firstR
  cases h : txnsL.find? fun t => stateR l t == 2 with
  | none =>
    rw [List.find?_eq_none] at h
    refine ⟨fun _ t h1 h2 => by simpa using h t (txnsL_mem.2 ⟨h1, h2⟩), fun _ => rfl⟩
  | some u =>
    have h1 := List.mem_of_find?_eq_some h
    have h2 := List.find?_some h
    rw [txnsL_mem] at h1
    refine ⟨fun e => by have : u = 0 := e; omega, fun e => absurd (by simpa using h2) (e u h1.1 h1.2)⟩
theorem firstR_mem {l : List Rc} (h : firstR l ≠ 0) : (1 ≤ firstR l ∧ firstR l ≤ 9) ∧ stateR l (firstR l) = 2 := by
  unfold firstR at h ⊢
  cases hf : txnsL.find? fun t => stateR l t == 2 with
  | none => rw [hf] at h; exact absurd rfl h
  | some u =>
    have h1 := List.mem_of_find?_eq_some hf
    have h2 := List.find?_some hf
    exact ⟨txnsL_mem.1 h1, by simpa using h2⟩
/-- The End of a Txn. -/
def endOf (l : List Rc) (t : Int) : Rc := ⟨4, t, (lastR l t : Nat), 0, 0, 0, 0, 0⟩
/-- Is there a record that mending puts next? -/
def isNext (l : List Rc) : Bool := firstR l != 0 || bestR l != 0
/-- The record that mending puts next. -/
def mendRec (l : List Rc) : Rc := if firstR l = 0 then rollRec l (bestR l) else endOf l (firstR l)
theorem mendRec_first {l : List Rc} (h : firstR l ≠ 0) : mendRec l = endOf l (firstR l) := by unfold mendRec; rw [if_neg h]
theorem mendRec_best {l : List Rc} (h : firstR l = 0) : mendRec l = rollRec l (bestR l) := by unfold mendRec; rw [if_pos h]
theorem endOf_step {l : List Rc} {t : Int} (ht : 1 ≤ t ∧ t ≤ 9) (hs : stateR l t = 2) (hl : l.length < 60) : recErr (l.length + 1 : Nat) (endOf l t) = 0 ∧ followsR l (endOf l t) = true := by
  have hla := lastR_le t l
  constructor
  · rw [recErr_zero']
    refine ⟨out1_ok (by omega) (by omega), rfl, ?_, rfl⟩
    unfold outOf endOf
    dsimp only
    rw [out1_ok ht.1 ht.2, out1_ok (by omega) (by omega)]
    rfl
  · unfold followsR endOf
    dsimp only
    rw [hs]
    simp
/-- How many records a Txn still wants. -/
def needAt (l : List Rc) (t : Int) : Nat := if stateR l t = 2 then 1 else if stateR l t = 1 ∨ stateR l t = 3 then 1 + (standB l t).length else 0
def needR (l : List Rc) : Nat := needAt l 1 + needAt l 2 + needAt l 3 + needAt l 4 + needAt l 5 + needAt l 6 + needAt l 7 + needAt l 8 + needAt l 9
theorem need_other {l : List Rc} {r : Rc} (he : recErr (l.length + 1 : Nat) r = 0) (hf : followsR l r = true) {u : Int} (hu : r.txn ≠ u) : needAt (l ++ [r]) u = needAt l u := by
  unfold needAt
  rw [stateR_snoc he hf, if_neg hu, standB_other he hf hu]
theorem need_step {l : List Rc} {r : Rc} (he : recErr (l.length + 1 : Nat) r = 0) (hf : followsR l r = true) (h : needAt (l ++ [r]) r.txn + 1 = needAt l r.txn) : needR (l ++ [r]) + 1 = needR l := by
  have ht := recErr_txn he
  have g : ∀ u : Int, needAt (l ++ [r]) u + (if r.txn = u then 1 else 0) = needAt l u := fun u => by
    by_cases hu : r.txn = u
    · rw [if_pos hu, ← hu]; exact h
    · rw [if_neg hu, need_other he hf hu]; rfl
  have h1 := g 1
  have h2 := g 2
  have h3 := g 3
  have h4 := g 4
  have h5 := g 5
  have h6 := g 6
  have h7 := g 7
  have h8 := g 8
  have h9 := g 9
  unfold needR
  have hc : r.txn = 1 ∨ r.txn = 2 ∨ r.txn = 3 ∨ r.txn = 4 ∨ r.txn = 5 ∨ r.txn = 6 ∨ r.txn = 7 ∨ r.txn = 8 ∨ r.txn = 9 := by omega
  rcases hc with hc | hc | hc | hc | hc | hc | hc | hc | hc <;> rw [hc] at h1 h2 h3 h4 h5 h6 h7 h8 h9 <;> simp at h1 h2 h3 h4 h5 h6 h7 h8 h9 <;> omega
/-- The record that mending puts next may follow; it is no Write and no Commit; one less is wanted then. -/
theorem mend_step {l : List Rc} (hR : Right l) (hn : isNext l = true) (hl : l.length < 60) :
    recErr (l.length + 1 : Nat) (mendRec l) = 0 ∧ followsR l (mendRec l) = true ∧ ((mendRec l).kind = 3 ∨ (mendRec l).kind = 4) ∧ needR (l ++ [mendRec l]) + 1 = needR l := by
  by_cases h0 : firstR l = 0
  · have hb : bestR l ≠ 0 := by
      unfold isNext at hn
      rw [h0] at hn
      simpa using hn
    obtain ⟨ht, hs⟩ := bestR_mem hb
    rw [mendRec_best h0]
    have hr0 := rollErr_of ht hs
    obtain ⟨he, hf⟩ := roll_step hR hr0 hl
    have hk : (rollRec l (bestR l)).kind = 3 ∨ (rollRec l (bestR l)).kind = 4 := by rw [rollRec_kind]; split <;> simp
    refine ⟨he, hf, hk, need_step he hf ?_⟩
    rw [rollRec_txn]
    unfold needAt
    have hsn : stateR (l ++ [rollRec l (bestR l)]) (bestR l) = (rollRec l (bestR l)).kind := by rw [stateR_snoc he hf, if_pos (rollRec_txn _ _)]
    rw [hsn]
    have hs2 : stateR l (bestR l) ≠ 2 := by unfold Hangs at hs; omega
    rw [if_neg hs2, if_pos hs]
    rcases List.eq_nil_or_concat (standB l (bestR l)) with hst | ⟨st, w, hst⟩
    · rw [rollRec_kind, if_pos hst, hst]
      simp
    · rw [List.concat_eq_append] at hst
      obtain ⟨_, _, h3, _⟩ := roll_next hR hr0 hl hst
      rw [rollRec_kind, if_neg (by rw [hst]; simp), h3, hst]
      simp
      omega
  · obtain ⟨ht, hs⟩ := firstR_mem h0
    rw [mendRec_first h0]
    obtain ⟨he, hf⟩ := endOf_step ht hs hl
    refine ⟨he, hf, Or.inr rfl, need_step he hf ?_⟩
    show needAt (l ++ [endOf l (firstR l)]) (firstR l) + 1 = needAt l (firstR l)
    have hsn : stateR (l ++ [endOf l (firstR l)]) (firstR l) = 4 := by rw [stateR_snoc he hf, if_pos (show (endOf l (firstR l)).txn = firstR l from rfl)]; rfl
    unfold needAt
    rw [hsn, hs]
    simp
theorem need_zero {l : List Rc} : needR l = 0 ↔ isNext l = false := by
  have hz : ∀ t, needAt l t = 0 ↔ stateR l t ≠ 2 ∧ ¬ Hangs l t := fun t => by
    unfold needAt Hangs
    by_cases h2 : stateR l t = 2
    · rw [if_pos h2]; simp [h2]
    · rw [if_neg h2]
      by_cases h1 : stateR l t = 1 ∨ stateR l t = 3
      · rw [if_pos h1]
        exact ⟨fun e => by omega, fun e => absurd h1 e.2⟩
      · rw [if_neg h1]
        exact ⟨fun _ => ⟨h2, h1⟩, fun _ => rfl⟩
  have hall : needR l = 0 ↔ ∀ t, 1 ≤ t → t ≤ 9 → needAt l t = 0 := by
    unfold needR
    constructor
    · intro h t h1 h2
      have hc : t = 1 ∨ t = 2 ∨ t = 3 ∨ t = 4 ∨ t = 5 ∨ t = 6 ∨ t = 7 ∨ t = 8 ∨ t = 9 := by omega
      rcases hc with rfl | rfl | rfl | rfl | rfl | rfl | rfl | rfl | rfl <;> omega
    · intro h
      have h1 := h 1 (by omega) (by omega)
      have h2 := h 2 (by omega) (by omega)
      have h3 := h 3 (by omega) (by omega)
      have h4 := h 4 (by omega) (by omega)
      have h5 := h 5 (by omega) (by omega)
      have h6 := h 6 (by omega) (by omega)
      have h7 := h 7 (by omega) (by omega)
      have h8 := h 8 (by omega) (by omega)
      have h9 := h 9 (by omega) (by omega)
      omega
  rw [hall]
  have hnb : isNext l = false ↔ firstR l = 0 ∧ bestR l = 0 := by unfold isNext; simp
  rw [hnb, firstR_zero, bestR_zero]
  constructor
  · intro h
    refine ⟨fun t h1 h2 => ((hz t).1 (h t h1 h2)).1, ?_⟩
    rw [List.eq_nil_iff_forall_not_mem]
    intro t ht
    obtain ⟨⟨h1, h2⟩, h3⟩ := losersR_mem.1 ht
    exact ((hz t).1 (h t h1 h2)).2 h3
  · rintro ⟨h1, h2⟩ t h3 h4
    refine (hz t).2 ⟨h1 t h3 h4, fun hh => ?_⟩
    have : t ∈ losersR l := losersR_mem.2 ⟨⟨h3, h4⟩, hh⟩
    rw [h2] at this
    cases this
/-- So many records are put at most. -/
def mendN : Nat → List Rc → List Rc
  | 0, l => l
  | n + 1, l => if isNext l then mendN n (l ++ [mendRec l]) else l
/-- All that are wanted. -/
def mendR (l : List Rc) : List Rc := mendN (needR l) l
theorem mendN_succ {n : Nat} {l : List Rc} (h : isNext l = true) : mendN (n + 1) l = mendN n (l ++ [mendRec l]) := by rw [mendN, if_pos h]
theorem mendN_none {l : List Rc} (h : isNext l = false) : ∀ n, mendN n l = l := by
  intro n
  cases n with
  | zero => rfl
  | succ n => rw [mendN, h]; rfl
/-- What holds of a right log, and stays when mending puts a record, holds behind so many; and so many less are wanted. -/
theorem mend_ind (P : List Rc → Prop) (hs : ∀ l, Right l → isNext l = true → l.length < 60 → P l → P (l ++ [mendRec l])) :
    ∀ n l, Right l → n ≤ needR l → l.length + n ≤ 60 → P l → Right (mendN n l) ∧ P (mendN n l) ∧ needR (mendN n l) + n = needR l ∧ (mendN n l).length = l.length + n := by
  intro n
  induction n with
  | zero => intro l hR _ _ hP; exact ⟨hR, hP, rfl, rfl⟩
  | succ n ih =>
    intro l hR hn hl hP
    have hx : isNext l = true := by
      cases hx : isNext l
      · have := need_zero.2 hx; omega
      · rfl
    obtain ⟨he, hf, _, hd⟩ := mend_step hR hx (by omega)
    rw [mendN_succ hx]
    have := ih (l ++ [mendRec l]) ((right_snoc _ _).2 ⟨hR, he, hf⟩) (by omega) (by simp only [List.length_append, List.length_singleton]; omega) (hs l hR hx (by omega) hP)
    refine ⟨this.1, this.2.1, by omega, ?_⟩
    rw [this.2.2.2, List.length_append, List.length_singleton]
    omega
theorem mendN_add : ∀ (a b : Nat) (l : List Rc), mendN b (mendN a l) = mendN (a + b) l := by
  intro a
  induction a with
  | zero => intro b l; rw [Nat.zero_add]; rfl
  | succ a ih =>
    intro b l
    cases hx : isNext l
    · rw [mendN_none hx, mendN_none hx, mendN_none hx]
    · rw [mendN_succ hx, ih, show a + 1 + b = (a + b) + 1 from by omega, mendN_succ hx]
/-- Behind all nothing is wanted. -/
theorem mendR_all {l : List Rc} (hR : Right l) (hl : l.length + needR l ≤ 60) : Right (mendR l) ∧ isNext (mendR l) = false ∧ (mendR l).length = l.length + needR l ∧ cellsR (mendR l) = cellsR l ∧ ∃ m, mendR l = l ++ m := by
  have := mend_ind (fun k => cellsR k = cellsR l ∧ ∃ m, k = l ++ m) (fun k hk hn hlt ⟨h1, m, h2⟩ => by
    obtain ⟨_, hf, hkd, _⟩ := mend_step hk hn hlt
    refine ⟨by rw [cellsR_other hf (by omega), h1], m ++ [mendRec k], by rw [h2, List.append_assoc]⟩) (needR l) l hR (Nat.le_refl _) hl ⟨rfl, [], by simp⟩
  exact ⟨this.1, need_zero.1 (show needR (mendN (needR l) l) = 0 by omega), this.2.2.2, this.2.1.1, this.2.1.2⟩
/-- So many at most, whether there are so many or not. -/
theorem mendN_min (n : Nat) : ∀ l, Right l → l.length + min n (needR l) ≤ 60 → mendN n l = mendN (min n (needR l)) l := by
  induction n with
  | zero => intro l _ _; rw [Nat.zero_min]
  | succ n ih =>
    intro l hR hl
    cases hx : isNext l
    · rw [mendN_none hx, mendN_none hx]
    · have hpos : needR l ≠ 0 := fun e => by rw [need_zero.1 e] at hx; cases hx
      have hlt : l.length < 60 := by omega
      obtain ⟨he, hf, _, hd⟩ := mend_step hR hx hlt
      have hm : min (n + 1) (needR l) = min n (needR (l ++ [mendRec l])) + 1 := by omega
      rw [hm, mendN_succ hx, mendN_succ hx]
      exact ih _ ((right_snoc _ _).2 ⟨hR, he, hf⟩) (by simp only [List.length_append, List.length_singleton]; omega)
/-- Mended in part, and then all, it is as if it were mended all at once. -/
theorem mendR_part {l : List Rc} (hR : Right l) (hl : l.length + needR l ≤ 60) (n : Nat) : Right (mendN n l) ∧ mendR (mendN n l) = mendR l ∧ needR (mendN n l) ≤ needR l ∧ (mendN n l).length + needR (mendN n l) = l.length + needR l := by
  rw [mendN_min n l hR (by omega)]
  have h1 := mend_ind (fun _ => True) (fun _ _ _ _ _ => trivial) (min n (needR l)) l hR (by omega) (by omega) trivial
  refine ⟨h1.1, ?_, by omega, by omega⟩
  unfold mendR
  rw [mendN_add]
  congr 1
  omega
/-- If nothing is next, no Txn hangs, and the cells are what must be. -/
theorem mended_calm {l : List Rc} (hR : Right l) (h : isNext l = false) : losersR l = [] ∧ ∀ p, InP p → mustR l p = cellR l p := by
  have hnb : firstR l = 0 ∧ bestR l = 0 := by unfold isNext at h; simpa using h
  have hlo := bestR_zero.1 hnb.2
  refine ⟨hlo, fun p hp => right_calm hR (fun t h1 h2 hh => ?_) hp⟩
  have : t ∈ losersR l := losersR_mem.2 ⟨⟨h1, h2⟩, hh⟩
  rw [hlo] at this
  cases this
end Go.Proofs.YtlpodahldpaniaaGreat.B
