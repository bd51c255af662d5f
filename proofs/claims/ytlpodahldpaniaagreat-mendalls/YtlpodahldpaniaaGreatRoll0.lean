/- Taking back, as plain functions of a log: the record that is next; all of them; what they leave. No Go in sight. -/
import Derived.Test.YtlpodahldpaniaaGreatTrue1
namespace Go.Proofs.YtlpodahldpaniaaGreat.B
set_option maxRecDepth 100000

theorem errOf_good {we e : Int} (h : we = 0) : errOf we e = e := by unfold errOf; rw [if_pos h]
theorem errOf_ill {we e : Int} (h : we ≠ 0) : errOf we e = we := by unfold errOf; rw [if_neg h]
/-- The record that is next when a Txn is taken back. -/
def rollRec (l : List Rc) (t : Int) : Rc := match (standB l t).getLast? with
  | none => ⟨4, t, (lastR l t : Nat), 0, 0, 0, 0, 0⟩
  | some w => ⟨3, t, (lastR l t : Nat), w.page, w.cell, w.new, w.old, w.prev⟩
/-- The document's error of a Step, of a right log. -/
def rollErr (l : List Rc) (t : Int) : Int := if out 1 9 [t] then 3 else if stateR l t = 0 then 7 else if stateR l t = 2 ∨ stateR l t = 4 then 6 else 0
theorem rollRec_end {l : List Rc} {t : Int} (h : standB l t = []) : rollRec l t = ⟨4, t, (lastR l t : Nat), 0, 0, 0, 0, 0⟩ := by unfold rollRec; rw [h]; rfl
theorem rollRec_back {l st : List Rc} {w : Rc} {t : Int} (h : standB l t = st ++ [w]) : rollRec l t = ⟨3, t, (lastR l t : Nat), w.page, w.cell, w.new, w.old, w.prev⟩ := by unfold rollRec; rw [h, List.getLast?_concat]
theorem rollErr_3 {l : List Rc} {t : Int} (h : out 1 9 [t] = true) : rollErr l t = 3 := by unfold rollErr; rw [h]; rfl
theorem rollErr_7 {l : List Rc} {t : Int} (h : out 1 9 [t] = false) (h0 : stateR l t = 0) : rollErr l t = 7 := by unfold rollErr; rw [h, if_neg Bool.false_ne_true, if_pos h0]
theorem rollErr_6 {l : List Rc} {t : Int} (h : out 1 9 [t] = false) (h0 : ¬ stateR l t = 0) (h1 : stateR l t = 2 ∨ stateR l t = 4) : rollErr l t = 6 := by unfold rollErr; rw [h, if_neg Bool.false_ne_true, if_neg h0, if_pos h1]
theorem rollErr_0 {l : List Rc} {t : Int} (h : out 1 9 [t] = false) (h0 : ¬ stateR l t = 0) (h1 : ¬ (stateR l t = 2 ∨ stateR l t = 4)) : rollErr l t = 0 := by unfold rollErr; rw [h, if_neg Bool.false_ne_true, if_neg h0, if_neg h1]
theorem rollErr_zero {l : List Rc} {t : Int} (h : rollErr l t = 0) : (1 ≤ t ∧ t ≤ 9) ∧ (stateR l t = 1 ∨ stateR l t = 3) := by
  cases h0 : out 1 9 [t]
  · by_cases h1 : stateR l t = 0
    · rw [rollErr_7 h0 h1] at h; cases h
    · by_cases h2 : stateR l t = 2 ∨ stateR l t = 4
      · rw [rollErr_6 h0 h1 h2] at h; cases h
      · have := stateR_range l t
        exact ⟨out1_false h0, by omega⟩
  · rw [rollErr_3 h0] at h; cases h
theorem rollErr_of {l : List Rc} {t : Int} (h : 1 ≤ t ∧ t ≤ 9) (hs : stateR l t = 1 ∨ stateR l t = 3) : rollErr l t = 0 := rollErr_0 (out1_ok h.1 h.2) (by omega) (by omega)
/-- Who has written, and taken nothing back, has a Write that stands. -/
theorem stand_one (t : Int) : ∀ l, Right l → stateR l t = 1 → standB l t ≠ [] := right_ind _ (fun h => by simp [stateR, lastR, foldI] at h)
  fun l r hR ih he hf hs => by
    rw [stateR_snoc he hf] at hs
    by_cases ht : r.txn = t
    · rw [if_pos ht] at hs
      subst ht
      rw [standB_write he hf hs]
      simp
    · rw [if_neg ht] at hs
      rw [standB_other he hf ht]
      exact ih hs
theorem recErr_prev {n : Int} {r : Rc} (h : recErr n r = 0) : 0 ≤ r.prev ∧ r.prev ≤ n - 1 := by
  have h3 := ((recErr_zero' n r).1 h).2.2.1
  unfold outOf at h3
  simp only [Bool.or_eq_false_iff] at h3
  exact out1_false h3.2.1
theorem roll_step {l : List Rc} (hR : Right l) {t : Int} (h : rollErr l t = 0) (hl : l.length < 60) : recErr (l.length + 1 : Nat) (rollRec l t) = 0 ∧ followsR l (rollRec l t) = true := by
  obtain ⟨h1, hs⟩ := rollErr_zero h
  have hla := lastR_le t l
  have s4 : stateR l t ≠ 4 := by omega
  rcases List.eq_nil_or_concat (standB l t) with hst | ⟨st, w, hst⟩
  · have s3 : stateR l t = 3 := by
      rcases hs with hs | hs
      · exact absurd hst (stand_one t l hR hs)
      · exact hs
    have hem : (standsR l t).isEmpty = true := by
      rw [stand_of_n4 s4] at hst
      have := standRecs_length l t
      rw [hst] at this
      exact List.isEmpty_iff.2 (List.length_eq_zero_iff.1 this.symm)
    rw [rollRec_end hst]
    constructor
    · rw [recErr_zero']
      refine ⟨out1_ok (by omega) (by omega), rfl, ?_, rfl⟩
      unfold outOf
      dsimp only
      rw [out1_ok h1.1 h1.2, out1_ok (by omega) (by omega)]
      rfl
    · unfold followsR
      dsimp only
      rw [s3, hem]
      simp
  · rw [List.concat_eq_append] at hst
    have hw : w ∈ standB l t := by rw [hst]; simp
    obtain ⟨hwl, hwt, hwk⟩ := standB_mem hw
    obtain ⟨j, hj⟩ := List.getElem?_of_mem hwl
    obtain ⟨hwe, _⟩ := right_follows hR hj
    have hjl : j < l.length := (List.getElem?_eq_some_iff.1 hj).1
    have hfit := recErr_fits hwe (turns_of.2 (Or.inl hwk))
    have hval := recErr_vals hwe (turns_of.2 (Or.inl hwk))
    have hprev := recErr_prev hwe
    rw [List.length_take_of_le (by omega)] at hprev
    rw [rollRec_back hst]
    constructor
    · rw [recErr_zero']
      refine ⟨out1_ok (by omega) (by omega), rfl, ?_, rfl⟩
      unfold outOf cellOut
      dsimp only
      have : out 0 99 [w.new, w.old] = false := by simp [out]; omega
      rw [out1_ok h1.1 h1.2, out1_ok (by omega) (by omega), out1_ok (n := w.page) (by omega) (by omega), out1_ok (n := w.cell) (by omega) (by omega), this, out1_ok (n := w.prev) (by omega) (by omega)]
      rfl
    · have e4 : (stateR l t == 4) = false := by simp; omega
      have e2 : (stateR l t == 2) = false := by simp; omega
      have hg : (standRecs l t).getLast? = some w := by rw [← stand_of_n4 s4, hst, List.getLast?_concat]
      rw [standRecs_last] at hg
      unfold followsR
      dsimp only
      rw [e4, e2]
      cases hn : (standsR l t).getLast? with
      | none => rw [hn] at hg; cases hg
      | some n =>
        rw [hn] at hg
        have hg' : l[n - 1]? = some w := hg
        simp [hg']
theorem roll_ok {l : List Rc} (hR : Right l) {t : Int} (h : rollErr l t = 0) (hl : l.length < 60) : stepErr l (rollRec l t) = 0 := (stepErr_zero _ _).2 (roll_step hR h hl)
theorem rollRec_txn (l : List Rc) (t : Int) : (rollRec l t).txn = t := by
  unfold rollRec
  cases (standB l t).getLast? <;> rfl
theorem rollRec_kind (l : List Rc) (t : Int) : (rollRec l t).kind = if standB l t = [] then 4 else 3 := by
  rcases List.eq_nil_or_concat (standB l t) with hst | ⟨st, w, hst⟩
  · rw [rollRec_end hst, if_pos hst]
  · rw [List.concat_eq_append] at hst
    rw [rollRec_back hst, if_neg (by rw [hst]; simp)]
/-- Behind a Back one Write less stands, and the Txn is still to be taken back. -/
theorem roll_next {l st : List Rc} {w : Rc} (hR : Right l) {t : Int} (h : rollErr l t = 0) (hl : l.length < 60) (hst : standB l t = st ++ [w]) :
    Right (l ++ [rollRec l t]) ∧ rollErr (l ++ [rollRec l t]) t = 0 ∧ standB (l ++ [rollRec l t]) t = st ∧ stateR (l ++ [rollRec l t]) t = 3 := by
  obtain ⟨he, hf⟩ := roll_step hR h hl
  have hk : (rollRec l t).kind = 3 := by rw [rollRec_back hst]
  have hx := rollRec_txn l t
  have hs3 : stateR (l ++ [rollRec l t]) t = 3 := by rw [stateR_snoc he hf, if_pos hx, hk]
  refine ⟨(right_snoc _ _).2 ⟨hR, he, hf⟩, rollErr_of (rollErr_zero h).1 (Or.inr hs3), ?_, hs3⟩
  have := standB_back hR he hf hk
  rw [hx, hst] at this
  simpa using this
/-- All the records that take a Txn back: so many Backs, and its End. -/
def abortTo (t : Int) : Nat → List Rc → List Rc
  | 0, l => l ++ [rollRec l t]
  | k + 1, l => abortTo t k (l ++ [rollRec l t])
def abortR (l : List Rc) (t : Int) : List Rc := abortTo t (standB l t).length l
/-- The document's error of an Abort, of a right world. -/
def abortErr (l : List Rc) (t : Int) : Int := if rollErr l t = 0 then (if 60 ≤ l.length + (standB l t).length then 2 else 0) else rollErr l t
theorem abortR_end {l : List Rc} {t : Int} (h : standB l t = []) : abortR l t = l ++ [rollRec l t] := by unfold abortR; rw [h]; rfl
theorem abortR_back {l st : List Rc} {w : Rc} (hR : Right l) {t : Int} (h : rollErr l t = 0) (hl : l.length < 60) (hst : standB l t = st ++ [w]) : abortR l t = abortR (l ++ [rollRec l t]) t := by
  unfold abortR
  rw [(roll_next hR h hl hst).2.2.1, hst, List.length_append, List.length_singleton]
  rfl
theorem abortErr_bad {l : List Rc} {t : Int} (h : rollErr l t ≠ 0) : abortErr l t = rollErr l t := by unfold abortErr; rw [if_neg h]
theorem abortErr_2 {l : List Rc} {t : Int} (h : rollErr l t = 0) (hl : 60 ≤ l.length + (standB l t).length) : abortErr l t = 2 := by unfold abortErr; rw [if_pos h, if_pos hl]
theorem abortErr_0 {l : List Rc} {t : Int} (h : rollErr l t = 0) (hl : ¬ 60 ≤ l.length + (standB l t).length) : abortErr l t = 0 := by unfold abortErr; rw [if_pos h, if_neg hl]
theorem abortErr_zero {l : List Rc} {t : Int} (h : abortErr l t = 0) : rollErr l t = 0 ∧ l.length + (standB l t).length < 60 := by
  by_cases h0 : rollErr l t = 0
  · by_cases h1 : 60 ≤ l.length + (standB l t).length
    · rw [abortErr_2 h0 h1] at h; cases h
    · exact ⟨h0, by omega⟩
  · rw [abortErr_bad h0] at h; exact absurd h h0
theorem abortErr_back {l st : List Rc} {w : Rc} (hR : Right l) {t : Int} (h : rollErr l t = 0) (hl : l.length < 60) (hst : standB l t = st ++ [w]) : abortErr l t = abortErr (l ++ [rollRec l t]) t := by
  obtain ⟨_, h2, h3, _⟩ := roll_next hR h hl hst
  unfold abortErr
  rw [if_pos h, if_pos h2, h3, hst, List.length_append, List.length_append, List.length_singleton, List.length_singleton, show l.length + (st.length + 1) = l.length + 1 + st.length from by omega]
/-- What holds of a right log, and stays when the Txn's next record is put, holds of the log in which it is taken back. -/
theorem abort_ind (t : Int) (P : List Rc → Prop) (hs : ∀ l, Right l → rollErr l t = 0 → l.length < 60 → P l → P (l ++ [rollRec l t])) :
    ∀ n l, (standB l t).length = n → Right l → abortErr l t = 0 → P l → Right (abortR l t) ∧ stateR (abortR l t) t = 4 ∧ P (abortR l t) ∧ (abortR l t).length = l.length + (standB l t).length + 1 := by
  intro n
  induction n with
  | zero =>
    intro l hn hR ha hP
    obtain ⟨h0, hl⟩ := abortErr_zero ha
    have hst : standB l t = [] := List.length_eq_zero_iff.1 hn
    obtain ⟨he, hf⟩ := roll_step hR h0 (by omega)
    rw [abortR_end hst]
    refine ⟨(right_snoc _ _).2 ⟨hR, he, hf⟩, ?_, hs l hR h0 (by omega) hP, by rw [hst]; simp⟩
    rw [stateR_snoc he hf, if_pos (rollRec_txn l t), rollRec_end hst]
  | succ n ih =>
    intro l hn hR ha hP
    obtain ⟨h0, hl⟩ := abortErr_zero ha
    rcases List.eq_nil_or_concat (standB l t) with hst | ⟨st, w, hst⟩
    · rw [hst] at hn; cases hn
    · rw [List.concat_eq_append] at hst
      obtain ⟨h1, h2, h3, _⟩ := roll_next hR h0 (by omega) hst
      rw [abortR_back hR h0 (by omega) hst]
      have hlen : st.length = n := by rw [hst] at hn; simpa using hn
      have := ih (l ++ [rollRec l t]) (by rw [h3]; exact hlen) h1 (by rw [← abortErr_back hR h0 (by omega) hst]; exact ha) (hs l hR h0 (by omega) hP)
      refine ⟨this.1, this.2.1, this.2.2.1, ?_⟩
      rw [this.2.2.2, h3, hst]
      simp
      omega
theorem abort_right {l : List Rc} (hR : Right l) {t : Int} (h : abortErr l t = 0) : Right (abortR l t) ∧ stateR (abortR l t) t = 4 ∧ (abortR l t).length = l.length + (standB l t).length + 1 := by
  have := abort_ind t (fun _ => True) (fun _ _ _ _ _ => trivial) _ l rfl hR h trivial
  exact ⟨this.1, this.2.1, this.2.2.2⟩
/-- The log is the elder one, and more behind it. -/
theorem abort_pre {l : List Rc} (hR : Right l) {t : Int} (h : abortErr l t = 0) : ∃ m, abortR l t = l ++ m :=
  (abort_ind t (fun k => ∃ m, k = l ++ m) (fun k _ _ _ ⟨m, hm⟩ => ⟨m ++ [rollRec k t], by rw [hm, List.append_assoc]⟩) _ l rfl hR h ⟨[], by simp⟩).2.2.1
theorem abort_other {l : List Rc} (hR : Right l) {t u : Int} (h : abortErr l t = 0) (hu : t ≠ u) : stateR (abortR l t) u = stateR l u ∧ lastR (abortR l t) u = lastR l u := by
  refine (abort_ind t (fun k => stateR k u = stateR l u ∧ lastR k u = lastR l u) (fun k hk h0 hl hP => ?_) _ l rfl hR h ⟨rfl, rfl⟩).2.2.1
  obtain ⟨he, hf⟩ := roll_step hk h0 hl
  have hx := rollRec_txn k t
  have hb : ((rollRec k t).txn == u) = false := by rw [hx]; simpa using hu
  rw [stateR_snoc he hf, if_neg (by rw [hx]; exact hu), lastR_snoc, hb, if_neg Bool.false_ne_true]
  exact hP
theorem abort_cells {l : List Rc} (hR : Right l) {t : Int} (h : abortErr l t = 0) : cellsR (abortR l t) = cellsR l := by
  refine (abort_ind t (fun k => cellsR k = cellsR l) (fun k hk h0 hl hP => ?_) _ l rfl hR h rfl).2.2.1
  obtain ⟨he, hf⟩ := roll_step hk h0 hl
  rw [cellsR_other hf (by rw [rollRec_kind]; split <;> decide), hP]
end Go.Proofs.YtlpodahldpaniaaGreat.B
