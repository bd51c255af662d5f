/- What stays right when a world is worked on; what a Commit makes of what must be. No Go in sight. Taking back, as plain functions of a log: the record that is next; all of them; what they leave. No Go in sight. Who is taken back has turned nothing: the cells behind an Abort, as plain functions. No Go in sight. Mending, as plain functions of a log: the record that is next; all of them; how many; what they leave. No Go in sight. What a call answers that makes a world, in one form for the world and for the error. -/
import Derived.Test.YtibfgbmhmdggmaaGreatDoorWorkA
namespace Go.Proofs.YtibfgbmhmdggmaaGreatDoor.B
set_option maxHeartbeats 32000000
set_option maxRecDepth 100000
theorem untold_app {l m : List Rc} {safe safe' : Int} {i : Nat} {d : Pg} (h : untoldB l safe i d = false) (hs : safe ≤ (l.length : Nat)) (hs' : safe ≤ safe') : untoldB (l ++ m) safe' i d = false := by
 unfold untoldB at h ⊢
 simp only [Bool.or_eq_false_iff] at h ⊢
 obtain ⟨h1, h2⟩ := h
 obtain ⟨h3, h4⟩ := out1_false h1
 refine ⟨out1_ok h3 (by omega), ?_⟩
 rw [List.take_append_of_le_length (by omega)]
 exact h2
theorem world_app {p q r : Pg} {l m : List Rc} {safe safe' : Int} (h : worldErr p q r l safe = 0) (hl : logErr (l ++ m) = 0) (hs : safe ≤ safe') (hs' : safe' ≤ ((l ++ m).length : Nat)) : worldErr p q r (l ++ m) safe' = 0 := by
 obtain ⟨_, h2, h3⟩ := worldErr_zero h
 obtain ⟨h4, h5⟩ := out1_false h2
 simp only [untoldTo, Bool.or_eq_false_iff, Bool.false_or] at h3
 refine worldErr_none hl (out1_ok (by omega) hs') ?_
 simp only [untoldTo, Bool.or_eq_false_iff, Bool.false_or]
 exact ⟨⟨untold_app h3.1.1 h5 hs, untold_app h3.1.2 h5 hs⟩, untold_app h3.2 h5 hs⟩
theorem errOf_zero {we e : Int} (h : errOf we e = 0) : we = 0 ∧ e = 0 := by
 unfold errOf at h
 by_cases hz : we = 0
 ·rw [if_pos hz] at h; exact ⟨hz, h⟩
 ·rw [if_neg hz] at h; exact absurd h hz
theorem write_right {l : List Rc} (hR : Right l) {t p c v : Int} (h : writeErr l t p c v = 0) : Right (l ++ [writeRec l t p c v]) := (right_snoc _ _).2 ⟨hR, write_step hR h⟩
theorem commit_right {l : List Rc} (hR : Right l) {t : Int} (h : commitErr l t = 0) : Right (l ++ [commitRec l t]) ∧ Right ((l ++ [commitRec l t]) ++ [endRec l t]) := by
 have h1 := (right_snoc _ _).2 ⟨hR, commit_step h⟩
 exact ⟨h1, (right_snoc _ _).2 ⟨h1, end_step h⟩⟩
theorem write_all {p q r : Pg} {l : List Rc} {safe t x c v : Int} (h : errOf (worldErr p q r l safe) (writeErr l t x c v) = 0) :
  worldErr p q r l safe = 0 ∧ logErr l = 0 ∧ worldErr p q r (l ++ [writeRec l t x c v]) safe = 0 ∧ logErr (l ++ [writeRec l t x c v]) = 0 ∧ l.length < 60 ∧ (0 ≤ x ∧ x ≤ 2) ∧ (0 ≤ c ∧ c ≤ 2) ∧
   cellsR (l ++ [writeRec l t x c v]) = cellsR l ∧ pagesR (l ++ [writeRec l t x c v]) = ((pagesR l).set (x.toNat * 4 + c.toNat) v).set (x.toNat * 4 + 3) ((l.length : Int) + 1) := by
 obtain ⟨hz, he⟩ := errOf_zero h
 have hl := (worldErr_zero hz).1
 obtain ⟨h60, hR⟩ := logErr_zero hl
 have hR' := write_right hR he
 have hl' := logErr_of hR'
 obtain ⟨hn, _, _, hlt⟩ := writeErr_zero he
 obtain ⟨_, h2, h3, _⟩ := noneB_false hn
 refine ⟨hz, hl, world_app hz hl' (Int.le_refl _) ?_, hl', hlt, h2, h3, ?_, ?_⟩
 ·have := (out1_false (worldErr_zero hz).2.1).2
  simp only [List.length_append, List.length_singleton]
  omega
 ·exact cellsR_other (write_step hR he).2 (by simp [writeRec])
 ·rw [pagesR_snoc]; rfl
def overR (t : Int) (b : List Int) (l : List Rc) : List Int := foldI (fun cs _ r => if r.txn == t then cs.set (r.page.toNat * 3 + r.cell.toNat) r.new else cs) b 0 l
theorem overR_snoc (t : Int) (b : List Int) (l : List Rc) (r : Rc) : overR t b (l ++ [r]) = if r.txn == t then (overR t b l).set (r.page.toNat * 3 + r.cell.toNat) r.new else overR t b l := foldI_snoc _ _ _ _
theorem overR_len (t : Int) (b : List Int) : ∀ l : List Rc, (overR t b l).length = b.length := list_snoc _ rfl fun l r ih => by
 rw [overR_snoc]; split
 ·rw [List.length_set]; exact ih
 ·exact ih
theorem over_one (t : Int) (b : List Int) (hb : b.length = 9) : ∀ l, Right l → (stateR l t = 0 ∨ stateR l t = 1) → ∀ p, InP p → (overR t b l).getD (p.1.toNat * 3 + p.2.toNat) 0 = if 0 < heldBy l p t then cellR l p else b.getD (p.1.toNat * 3 + p.2.toNat) 0 := right_ind _
 (fun _ p _ => by rw [heldBy_cnt, stand_nil']; rfl)
 fun l r hR ih he hf hs p hp => by
  rw [stateR_snoc he hf] at hs
  rw [overR_snoc]
  by_cases ht : r.txn = t
  ·rw [if_pos ht] at hs
   have hk := recErr_kind he
   have k : r.kind = 1 := by omega
   have hs0 := state01 hf (Or.inl k)
   have hfit := recErr_fits he (turns_of.2 (Or.inl k))
   have hbt : (r.txn == t) = true := by simpa using ht
   subst ht
   rw [hbt, if_pos rfl, getD_set, overR_len, hb, held_write he hf k]
   obtain ⟨p1, p2⟩ := p
   obtain ⟨g1, g2, g3, g4⟩ := hp
   dsimp only at g1 g2 g3 g4 ⊢
   by_cases e : (p1, p2) = (r.page, r.cell)
   ·obtain ⟨e1, e2⟩ := Prod.mk.inj e
    rw [if_pos (by rw [e1, e2]; omega), if_pos e, if_pos (by omega), cellR_snoc he ⟨g1, g2, g3, g4⟩, if_pos ⟨turns_of.2 (Or.inl k), e⟩]
   ·have hn2 : ¬ (turns r = true ∧ (p1, p2) = (r.page, r.cell)) := fun x => e x.2
    rw [if_neg (fun x => e (Prod.ext (by dsimp only; omega) (by dsimp only; omega))), if_neg e, cellR_snoc he ⟨g1, g2, g3, g4⟩, if_neg hn2]
    exact ih hs0 (p1, p2) ⟨g1, g2, g3, g4⟩
  ·rw [if_neg ht] at hs
   have hbt : (r.txn == t) = false := by simpa using ht
   rw [hbt, if_neg Bool.false_ne_true, held_other he hf ht, ih hs p hp]
   by_cases h0 : 0 < heldBy l p t
   ·rw [if_pos h0, if_pos h0, (cell_kept hR he hf hp ht h0).2]
   ·rw [if_neg h0, if_neg h0]
theorem only_writes (t : Int) : ∀ l, Right l → (stateR l t = 0 ∨ stateR l t = 1) → ∀ x ∈ l, x.txn = t → x.kind = 1 := right_ind _ (fun _ x hx => by cases hx)
 fun l r hR ih he hf hs x hx ht => by
  rw [stateR_snoc he hf] at hs
  by_cases hr : r.txn = t
  ·rw [if_pos hr] at hs
   have hk := recErr_kind he
   have k : r.kind = 1 := by omega
   rcases List.mem_append.1 hx with hx | hx
   ·exact ih (by rw [← hr]; exact state01 hf (Or.inl k)) x hx ht
   ·simp at hx; rw [hx]; exact k
  ·rw [if_neg hr] at hs
   rcases List.mem_append.1 hx with hx | hx
   ·exact ih hs x hx ht
   ·simp at hx; subst hx; exact absurd ht hr
theorem commit_all {p q r : Pg} {l : List Rc} {safe t : Int} (h : errOf (worldErr p q r l safe) (commitErr l t) = 0) :
  worldErr p q r l safe = 0 ∧ logErr l = 0 ∧ worldErr p q r ((l ++ [commitRec l t]) ++ [endRec l t]) ((l.length : Int) + 1) = 0 ∧ logErr (l ++ [commitRec l t]) = 0 ∧ l.length < 59 ∧
   cellsR (l ++ [commitRec l t]) = overR t (cellsR l) l ∧ winsR (l ++ [commitRec l t]) = winsR l ++ [t] ∧ ((l ++ [commitRec l t]) ++ [endRec l t]).take (l.length + 1) = l ++ [commitRec l t] ∧ ∀ x ∈ l, x.txn = t → 0 ≤ x.page ∧ x.page ≤ 2 ∧ 0 ≤ x.cell ∧ x.cell ≤ 2 := by
 obtain ⟨hz, he⟩ := errOf_zero h
 have hl := (worldErr_zero hz).1
 obtain ⟨h60, hR⟩ := logErr_zero hl
 obtain ⟨hR1, hR2⟩ := commit_right hR he
 obtain ⟨_, hst, hlt⟩ := commitErr_zero he
 have hsafe := (out1_false (worldErr_zero hz).2.1).2
 refine ⟨hz, hl, ?_, logErr_of hR1, hlt, ?_, ?_, ?_, ?_⟩
 ·have h2 := logErr_of hR2
  rw [List.append_assoc] at h2 ⊢
  refine world_app hz h2 (by omega) ?_
  simp only [List.length_append, List.cons_append, List.nil_append, List.length_cons, List.length_nil]
  omega
 ·refine cells_ext (cellsR_len _) (by rw [overR_len]; exact cellsR_len l) fun x hx => ?_
  rw [over_one t _ (cellsR_len l) l hR (Or.inr hst) x hx]
  exact mustR_commit hR (commit_step he).2 rfl hx
 ·rw [winsR_snoc]; rfl
 ·rw [List.take_append_of_le_length (by simp), List.take_of_length_le (by simp)]
 ·intro x hx ht
  exact right_fits l hR x hx (turns_of.2 (Or.inl (only_writes t l hR (Or.inr hst) x hx ht)))
theorem errOf_good {we e : Int} (h : we = 0) : errOf we e = e := by unfold errOf; rw [if_pos h]
theorem errOf_ill {we e : Int} (h : we ≠ 0) : errOf we e = we := by unfold errOf; rw [if_neg h]
def rollRec (l : List Rc) (t : Int) : Rc := match (standB l t).getLast? with
 | none => ⟨4, t, (lastR l t : Nat), 0, 0, 0, 0, 0⟩
 | some w => ⟨3, t, (lastR l t : Nat), w.page, w.cell, w.new, w.old, w.prev⟩
def rollErr (l : List Rc) (t : Int) : Int := if out 1 9 [t] then 3 else if stateR l t = 0 then 7 else if stateR l t = 2 ∨ stateR l t = 4 then 6 else 0
theorem rollRec_end {l : List Rc} {t : Int} (h : standB l t = []) : rollRec l t = ⟨4, t, (lastR l t : Nat), 0, 0, 0, 0, 0⟩ := by unfold rollRec; rw [h]; rfl
theorem rollRec_back {l st : List Rc} {w : Rc} {t : Int} (h : standB l t = st ++ [w]) : rollRec l t = ⟨3, t, (lastR l t : Nat), w.page, w.cell, w.new, w.old, w.prev⟩ := by unfold rollRec; rw [h, List.getLast?_concat]
theorem rollErr_3 {l : List Rc} {t : Int} (h : out 1 9 [t] = true) : rollErr l t = 3 := by unfold rollErr; rw [h]; rfl
theorem rollErr_7 {l : List Rc} {t : Int} (h : out 1 9 [t] = false) (h0 : stateR l t = 0) : rollErr l t = 7 := by unfold rollErr; rw [h, if_neg Bool.false_ne_true, if_pos h0]
theorem rollErr_6 {l : List Rc} {t : Int} (h : out 1 9 [t] = false) (h0 : ¬ stateR l t = 0) (h1 : stateR l t = 2 ∨ stateR l t = 4) : rollErr l t = 6 := by unfold rollErr; rw [h, if_neg Bool.false_ne_true, if_neg h0, if_pos h1]
theorem rollErr_0 {l : List Rc} {t : Int} (h : out 1 9 [t] = false) (h0 : ¬ stateR l t = 0) (h1 : ¬ (stateR l t = 2 ∨ stateR l t = 4)) : rollErr l t = 0 := by unfold rollErr; rw [h, if_neg Bool.false_ne_true, if_neg h0, if_neg h1]
theorem rollErr_zero {l : List Rc} {t : Int} (h : rollErr l t = 0) : (1 ≤ t ∧ t ≤ 9) ∧ (stateR l t = 1 ∨ stateR l t = 3) := by
 cases h0 : out 1 9 [t]
 ·by_cases h1 : stateR l t = 0
  ·rw [rollErr_7 h0 h1] at h; cases h
  ·by_cases h2 : stateR l t = 2 ∨ stateR l t = 4
   ·rw [rollErr_6 h0 h1 h2] at h; cases h
   ·have := stateR_range l t
    exact ⟨out1_false h0, by omega⟩
 ·rw [rollErr_3 h0] at h; cases h
theorem rollErr_of {l : List Rc} {t : Int} (h : 1 ≤ t ∧ t ≤ 9) (hs : stateR l t = 1 ∨ stateR l t = 3) : rollErr l t = 0 := rollErr_0 (out1_ok h.1 h.2) (by omega) (by omega)
theorem stand_one (t : Int) : ∀ l, Right l → stateR l t = 1 → standB l t ≠ [] := right_ind _ (fun h => by simp [stateR, lastR, foldI] at h)
 fun l r hR ih he hf hs => by
  rw [stateR_snoc he hf] at hs
  by_cases ht : r.txn = t
  ·rw [if_pos ht] at hs
   subst ht
   rw [standB_write he hf hs]
   simp
  ·rw [if_neg ht] at hs
   rw [standB_other he hf ht]
   exact ih hs
theorem recErr_prev {n : Int} {r : Rc} (h : recErr n r = 0) : 0 ≤ r.prev ∧ r.prev ≤ n - 1 := by
 have h3 := ((recErr_zero' n r).1 h).2.2.1
 unfold outOf at h3
 simp only [Bool.or_eq_false_iff] at h3
 exact out1_false h3.2.1
theorem roll_step {l : List Rc} (hR : Right l) {t : Int} (h : rollErr l t = 0) (hl : l.length < 60) : recErr (l.length + 1 : Nat) (rollRec l t) = 0 ∧ followsR l (rollRec l t) = true := by
 obtain ⟨h1, hs⟩ := rollErr_zero h
 have hla := lastR_le t l
 have s4 : stateR l t ≠ 4 := by omega
 rcases List.eq_nil_or_concat (standB l t) with hst | ⟨st, w, hst⟩
 ·have s3 : stateR l t = 3 := by
   rcases hs with hs | hs
   ·exact absurd hst (stand_one t l hR hs)
   ·exact hs
  have hem : (standsR l t).isEmpty = true := by
   rw [stand_of_n4 s4] at hst
   have := standRecs_length l t
   rw [hst] at this
   exact List.isEmpty_iff.2 (List.length_eq_zero_iff.1 this.symm)
  rw [rollRec_end hst]
  constructor
  ·rw [recErr_zero']
   refine ⟨out1_ok (by omega) (by omega), rfl, ?_, rfl⟩
   unfold outOf
   dsimp only
   rw [out1_ok h1.1 h1.2, out1_ok (by omega) (by omega)]
   rfl
  ·unfold followsR
   dsimp only
   rw [s3, hem]
   simp
 ·rw [List.concat_eq_append] at hst
  have hw : w ∈ standB l t := by rw [hst]; simp
  obtain ⟨hwl, hwt, hwk⟩ := standB_mem hw
  obtain ⟨j, hj⟩ := List.getElem?_of_mem hwl
  obtain ⟨hwe, _⟩ := right_follows hR hj
  have hjl : j < l.length := (List.getElem?_eq_some_iff.1 hj).1
  have hfit := recErr_fits hwe (turns_of.2 (Or.inl hwk))
  have hval := recErr_vals hwe (turns_of.2 (Or.inl hwk))
  have hprev := recErr_prev hwe
  rw [List.length_take_of_le (by omega)] at hprev
  rw [rollRec_back hst]
  constructor
  ·rw [recErr_zero']
   refine ⟨out1_ok (by omega) (by omega), rfl, ?_, rfl⟩
   unfold outOf cellOut
   dsimp only
   have : out 0 99 [w.new, w.old] = false := by simp [out]; omega
   rw [out1_ok h1.1 h1.2, out1_ok (by omega) (by omega), out1_ok (n := w.page) (by omega) (by omega), out1_ok (n := w.cell) (by omega) (by omega), this, out1_ok (n := w.prev) (by omega) (by omega)]
   rfl
  ·have e4 : (stateR l t == 4) = false := by simp; omega
   have e2 : (stateR l t == 2) = false := by simp; omega
   have hg : (standRecs l t).getLast? = some w := by rw [← stand_of_n4 s4, hst, List.getLast?_concat]
   rw [standRecs_last] at hg
   unfold followsR
   dsimp only
   rw [e4, e2]
   cases hn : (standsR l t).getLast? with
   | none => rw [hn] at hg; cases hg
   | some n =>
    rw [hn] at hg
    have hg' : l[n - 1]? = some w := hg
    simp [hg']
theorem roll_ok {l : List Rc} (hR : Right l) {t : Int} (h : rollErr l t = 0) (hl : l.length < 60) : stepErr l (rollRec l t) = 0 := (stepErr_zero _ _).2 (roll_step hR h hl)
theorem rollRec_txn (l : List Rc) (t : Int) : (rollRec l t).txn = t := by
 unfold rollRec
 cases (standB l t).getLast? <;> rfl
theorem rollRec_kind (l : List Rc) (t : Int) : (rollRec l t).kind = if standB l t = [] then 4 else 3 := by
 rcases List.eq_nil_or_concat (standB l t) with hst | ⟨st, w, hst⟩
 ·rw [rollRec_end hst, if_pos hst]
 ·rw [List.concat_eq_append] at hst
  rw [rollRec_back hst, if_neg (by rw [hst]; simp)]
theorem roll_next {l st : List Rc} {w : Rc} (hR : Right l) {t : Int} (h : rollErr l t = 0) (hl : l.length < 60) (hst : standB l t = st ++ [w]) :
  Right (l ++ [rollRec l t]) ∧ rollErr (l ++ [rollRec l t]) t = 0 ∧ standB (l ++ [rollRec l t]) t = st ∧ stateR (l ++ [rollRec l t]) t = 3 := by
 obtain ⟨he, hf⟩ := roll_step hR h hl
 have hk : (rollRec l t).kind = 3 := by rw [rollRec_back hst]
 have hx := rollRec_txn l t
 have hs3 : stateR (l ++ [rollRec l t]) t = 3 := by rw [stateR_snoc he hf, if_pos hx, hk]
 refine ⟨(right_snoc _ _).2 ⟨hR, he, hf⟩, rollErr_of (rollErr_zero h).1 (Or.inr hs3), ?_, hs3⟩
 have := standB_back hR he hf hk
 rw [hx, hst] at this
 simpa using this
def abortTo (t : Int) : Nat → List Rc → List Rc
 | 0, l => l ++ [rollRec l t]
 | k + 1, l => abortTo t k (l ++ [rollRec l t])
def abortR (l : List Rc) (t : Int) : List Rc := abortTo t (standB l t).length l
def abortErr (l : List Rc) (t : Int) : Int := if rollErr l t = 0 then (if 60 ≤ l.length + (standB l t).length then 2 else 0) else rollErr l t
theorem abortR_end {l : List Rc} {t : Int} (h : standB l t = []) : abortR l t = l ++ [rollRec l t] := by unfold abortR; rw [h]; rfl
theorem abortR_back {l st : List Rc} {w : Rc} (hR : Right l) {t : Int} (h : rollErr l t = 0) (hl : l.length < 60) (hst : standB l t = st ++ [w]) : abortR l t = abortR (l ++ [rollRec l t]) t := by
 unfold abortR
 rw [(roll_next hR h hl hst).2.2.1, hst, List.length_append, List.length_singleton]
 rfl
theorem abortErr_bad {l : List Rc} {t : Int} (h : rollErr l t ≠ 0) : abortErr l t = rollErr l t := by unfold abortErr; rw [if_neg h]
theorem abortErr_2 {l : List Rc} {t : Int} (h : rollErr l t = 0) (hl : 60 ≤ l.length + (standB l t).length) : abortErr l t = 2 := by unfold abortErr; rw [if_pos h, if_pos hl]
theorem abortErr_0 {l : List Rc} {t : Int} (h : rollErr l t = 0) (hl : ¬ 60 ≤ l.length + (standB l t).length) : abortErr l t = 0 := by unfold abortErr; rw [if_pos h, if_neg hl]
theorem abortErr_zero {l : List Rc} {t : Int} (h : abortErr l t = 0) : rollErr l t = 0 ∧ l.length + (standB l t).length < 60 := by
 by_cases h0 : rollErr l t = 0
 ·by_cases h1 : 60 ≤ l.length + (standB l t).length
  ·rw [abortErr_2 h0 h1] at h; cases h
  ·exact ⟨h0, by omega⟩
 ·rw [abortErr_bad h0] at h; exact absurd h h0
theorem abortErr_back {l st : List Rc} {w : Rc} (hR : Right l) {t : Int} (h : rollErr l t = 0) (hl : l.length < 60) (hst : standB l t = st ++ [w]) : abortErr l t = abortErr (l ++ [rollRec l t]) t := by
 obtain ⟨_, h2, h3, _⟩ := roll_next hR h hl hst
 unfold abortErr
 rw [if_pos h, if_pos h2, h3, hst, List.length_append, List.length_append, List.length_singleton, List.length_singleton, show l.length + (st.length + 1) = l.length + 1 + st.length from by omega]
theorem abort_ind (t : Int) (P : List Rc → Prop) (hs : ∀ l, Right l → rollErr l t = 0 → l.length < 60 → P l → P (l ++ [rollRec l t])) :
  ∀ n l, (standB l t).length = n → Right l → abortErr l t = 0 → P l → Right (abortR l t) ∧ stateR (abortR l t) t = 4 ∧ P (abortR l t) ∧ (abortR l t).length = l.length + (standB l t).length + 1 := by
 intro n
 induction n with
 | zero =>
  intro l hn hR ha hP
  obtain ⟨h0, hl⟩ := abortErr_zero ha
  have hst : standB l t = [] := List.length_eq_zero_iff.1 hn
  obtain ⟨he, hf⟩ := roll_step hR h0 (by omega)
  rw [abortR_end hst]
  refine ⟨(right_snoc _ _).2 ⟨hR, he, hf⟩, ?_, hs l hR h0 (by omega) hP, by rw [hst]; simp⟩
  rw [stateR_snoc he hf, if_pos (rollRec_txn l t), rollRec_end hst]
 | succ n ih =>
  intro l hn hR ha hP
  obtain ⟨h0, hl⟩ := abortErr_zero ha
  rcases List.eq_nil_or_concat (standB l t) with hst | ⟨st, w, hst⟩
  ·rw [hst] at hn; cases hn
  ·rw [List.concat_eq_append] at hst
   obtain ⟨h1, h2, h3, _⟩ := roll_next hR h0 (by omega) hst
   rw [abortR_back hR h0 (by omega) hst]
   have hlen : st.length = n := by rw [hst] at hn; simpa using hn
   have := ih (l ++ [rollRec l t]) (by rw [h3]; exact hlen) h1 (by rw [← abortErr_back hR h0 (by omega) hst]; exact ha) (hs l hR h0 (by omega) hP)
   refine ⟨this.1, this.2.1, this.2.2.1, ?_⟩
   rw [this.2.2.2, h3, hst]
   simp
   omega
theorem abort_right {l : List Rc} (hR : Right l) {t : Int} (h : abortErr l t = 0) : Right (abortR l t) ∧ stateR (abortR l t) t = 4 ∧ (abortR l t).length = l.length + (standB l t).length + 1 := by
 have := abort_ind t (fun _ => True) (fun _ _ _ _ _ => trivial) _ l rfl hR h trivial
 exact ⟨this.1, this.2.1, this.2.2.2⟩
theorem abort_pre {l : List Rc} (hR : Right l) {t : Int} (h : abortErr l t = 0) : ∃ m, abortR l t = l ++ m :=
 (abort_ind t (fun k => ∃ m, k = l ++ m) (fun k _ _ _ ⟨m, hm⟩ => ⟨m ++ [rollRec k t], by rw [hm, List.append_assoc]⟩) _ l rfl hR h ⟨[], by simp⟩).2.2.1
theorem abort_cells {l : List Rc} (hR : Right l) {t : Int} (h : abortErr l t = 0) : cellsR (abortR l t) = cellsR l := by
 refine (abort_ind t (fun k => cellsR k = cellsR l) (fun k hk h0 hl hP => ?_) _ l rfl hR h rfl).2.2.1
 obtain ⟨he, hf⟩ := roll_step hk h0 hl
 rw [cellsR_other hf (by rw [rollRec_kind]; split <;> decide), hP]
def undoR (ps : List Int) (st : List Rc) : List Int := st.foldr (fun r qs => qs.set (r.page.toNat * 4 + r.cell.toNat) r.old) ps
theorem undoR_nil (ps : List Int) : undoR ps [] = ps := rfl
theorem undoR_cons (ps : List Int) (r : Rc) (st : List Rc) : undoR ps (r :: st) = (undoR ps st).set (r.page.toNat * 4 + r.cell.toNat) r.old := rfl
theorem undoR_snoc (ps : List Int) (st : List Rc) (r : Rc) : undoR ps (st ++ [r]) = undoR (ps.set (r.page.toNat * 4 + r.cell.toNat) r.old) st := by
 unfold undoR
 rw [List.foldr_append]
 rfl
theorem undoR_len (ps : List Int) (st : List Rc) : (undoR ps st).length = ps.length := by
 induction st with
 | nil => rfl
 | cons r st ih => rw [undoR_cons, List.length_set]; exact ih
theorem undo_agree {ps qs : List Int} (hl : ps.length = qs.length) (h : ∀ k, k % 4 ≠ 3 → ps.getD k 0 = qs.getD k 0) (st : List Rc) : ∀ k, k % 4 ≠ 3 → (undoR ps st).getD k 0 = (undoR qs st).getD k 0 := by
 induction st with
 | nil => exact h
 | cons r st ih =>
  intro k hk
  rw [undoR_cons, undoR_cons, getD_set, getD_set, undoR_len, undoR_len, hl, ih k hk]
theorem abort_undo (t : Int) : ∀ n l, (standB l t).length = n → Right l → abortErr l t = 0 → ∀ k, k % 4 ≠ 3 → (pagesR (abortR l t)).getD k 0 = (undoR (pagesR l) (standB l t)).getD k 0 := by
 intro n
 induction n with
 | zero =>
  intro l hn hR ha k hk
  have hst : standB l t = [] := List.length_eq_zero_iff.1 hn
  rw [abortR_end hst, hst, undoR_nil, pagesR_snoc, if_neg (by rw [rollRec_end hst]; simp [turns])]
 | succ n ih =>
  intro l hn hR ha k hk
  obtain ⟨h0, hl⟩ := abortErr_zero ha
  rcases List.eq_nil_or_concat (standB l t) with hst | ⟨st, u, hst⟩
  ·rw [hst] at hn; cases hn
  ·rw [List.concat_eq_append] at hst
   obtain ⟨h1, h2, h3, _⟩ := roll_next hR h0 (by omega) hst
   have hlen : st.length = n := by rw [hst] at hn; simpa using hn
   have hroll := rollRec_back hst
   rw [abortR_back hR h0 (by omega) hst, ih (l ++ [rollRec l t]) (by rw [h3]; exact hlen) h1 (by rw [← abortErr_back hR h0 (by omega) hst]; exact ha) k hk, h3, hst, undoR_snoc]
   refine undo_agree ?_ ?_ st k hk
   ·rw [pagesR_len, List.length_set, pagesR_len]
   ·intro j hj
    rw [pagesR_snoc, if_pos (by rw [hroll]; rfl), hroll]
    dsimp only
    rw [getD_set _ (u.page.toNat * 4 + 3), if_neg (by omega)]
theorem stand_fits {l : List Rc} (hR : Right l) {t : Int} : ∀ x ∈ standB l t, 0 ≤ x.page ∧ x.page ≤ 2 ∧ 0 ≤ x.cell ∧ x.cell ≤ 2 := fun x hx => by
 obtain ⟨h1, _, h3⟩ := standB_mem hx
 exact right_fits l hR x h1 (turns_of.2 (Or.inl h3))
theorem abort_all {p q r : Pg} {l : List Rc} {safe t : Int} (h : errOf (worldErr p q r l safe) (abortErr l t) = 0) :
  worldErr p q r l safe = 0 ∧ logErr l = 0 ∧ worldErr p q r (abortR l t) safe = 0 ∧ logErr (abortR l t) = 0 ∧ l.length ≤ 60 ∧ (abortR l t).length ≤ 60 ∧ cellsR (abortR l t) = cellsR l ∧ stateAns (abortR l t) t = (4, ((lastR (abortR l t) t : Nat) : Int), 0) ∧
   stackR l t = standB l t ∧ (∀ x ∈ standB l t, 0 ≤ x.page ∧ x.page ≤ 2 ∧ 0 ≤ x.cell ∧ x.cell ≤ 2) ∧ ∀ k, k % 4 ≠ 3 → (undoR (pagesR l) (standB l t)).getD k 0 = (pagesR (abortR l t)).getD k 0 := by
 obtain ⟨hz, he⟩ := errOf_zero h
 have hl := (worldErr_zero hz).1
 obtain ⟨h60, hR⟩ := logErr_zero hl
 obtain ⟨hR', hs, _⟩ := abort_right hR he
 have hl' := logErr_of hR'
 obtain ⟨ht, hst⟩ := rollErr_zero (abortErr_zero he).1
 refine ⟨hz, hl, ?_, hl', h60, right_len _ hR', abort_cells hR he, ?_, stack_eq t l hR (by omega), stand_fits hR, fun k hk => (abort_undo t _ l rfl hR he k hk).symm⟩
 ·obtain ⟨m, hm⟩ := abort_pre hR he
  have hsafe := (out1_false (worldErr_zero hz).2.1).2
  rw [hm] at hl' ⊢
  exact world_app hz hl' (Int.le_refl _) (by simp only [List.length_append]; omega)
 ·unfold stateAns
  rw [if_pos hl', out1_ok ht.1 ht.2, hs]
  rfl
def txnsL : List Int := [1, 2, 3, 4, 5, 6, 7, 8, 9]
theorem txnsL_mem {t : Int} : t ∈ txnsL ↔ 1 ≤ t ∧ t ≤ 9 := by
 unfold txnsL
 simp only [List.mem_cons, List.not_mem_nil, or_false]
 omega
def losersR (l : List Rc) : List Int := txnsL.filter fun t => stateR l t == 1 || stateR l t == 3
theorem losersR_mem {l : List Rc} {t : Int} : t ∈ losersR l ↔ (1 ≤ t ∧ t ≤ 9) ∧ Hangs l t := by
 unfold losersR
 rw [List.mem_filter, txnsL_mem]
 simp only [Bool.or_eq_true, beq_iff_eq]
def betterR (l : List Rc) (b t : Int) : Int := if b = 0 ∨ lastR l b < lastR l t then t else b
def bestOf (l : List Rc) (ts : List Int) : Int := ts.foldl (betterR l) 0
def bestR (l : List Rc) : Int := bestOf l (losersR l)
theorem bestOf_snoc (l : List Rc) (ts : List Int) (t : Int) : bestOf l (ts ++ [t]) = betterR l (bestOf l ts) t := by unfold bestOf; rw [List.foldl_append]; rfl
theorem bestOf_mem (l : List Rc) : ∀ ts : List Int, (ts = [] ∧ bestOf l ts = 0) ∨ bestOf l ts ∈ ts := list_snoc _ (Or.inl ⟨rfl, rfl⟩) fun ts t ih => Or.inr (by
 rw [bestOf_snoc]
 unfold betterR
 split
 ·simp
 ·rename_i h
  rcases ih with ⟨_, h0⟩ | hm
  ·exact absurd (Or.inl h0) h
  ·exact List.mem_append_left _ hm)
theorem bestR_zero {l : List Rc} : bestR l = 0 ↔ losersR l = [] := by
 constructor
 ·intro h
  rcases bestOf_mem l (losersR l) with ⟨h0, _⟩ | hm
  ·exact h0
  ·have : bestR l ∈ losersR l := hm
   rw [h, losersR_mem] at this
   omega
 ·intro h
  unfold bestR
  rw [h]
  rfl
theorem bestR_mem {l : List Rc} (h : bestR l ≠ 0) : (1 ≤ bestR l ∧ bestR l ≤ 9) ∧ Hangs l (bestR l) := by
 rcases bestOf_mem l (losersR l) with ⟨_, h0⟩ | hm
 ·exact absurd h0 h
 ·exact losersR_mem.1 hm
def firstR (l : List Rc) : Int := (txnsL.find? fun t => stateR l t == 2).getD 0
theorem firstR_zero {l : List Rc} : firstR l = 0 ↔ ∀ t, 1 ≤ t → t ≤ 9 → stateR l t ≠ 2 := by
 unfold firstR
 cases h : txnsL.find? fun t => stateR l t == 2 with
 | none =>
  rw [List.find?_eq_none] at h
  refine ⟨fun _ t h1 h2 => by simpa using h t (txnsL_mem.2 ⟨h1, h2⟩), fun _ => rfl⟩
 | some u =>
  have h1 := List.mem_of_find?_eq_some h
  have h2 := List.find?_some h
  rw [txnsL_mem] at h1
  refine ⟨fun e => by have : u = 0 := e; omega, fun e => absurd (by simpa using h2) (e u h1.1 h1.2)⟩
theorem firstR_mem {l : List Rc} (h : firstR l ≠ 0) : (1 ≤ firstR l ∧ firstR l ≤ 9) ∧ stateR l (firstR l) = 2 := by
 unfold firstR at h ⊢
 cases hf : txnsL.find? fun t => stateR l t == 2 with
 | none => rw [hf] at h; exact absurd rfl h
 | some u =>
  have h1 := List.mem_of_find?_eq_some hf
  have h2 := List.find?_some hf
  exact ⟨txnsL_mem.1 h1, by simpa using h2⟩
def endOf (l : List Rc) (t : Int) : Rc := ⟨4, t, (lastR l t : Nat), 0, 0, 0, 0, 0⟩
def isNext (l : List Rc) : Bool := firstR l != 0 || bestR l != 0
def mendRec (l : List Rc) : Rc := if firstR l = 0 then rollRec l (bestR l) else endOf l (firstR l)
theorem mendRec_first {l : List Rc} (h : firstR l ≠ 0) : mendRec l = endOf l (firstR l) := by unfold mendRec; rw [if_neg h]
theorem mendRec_best {l : List Rc} (h : firstR l = 0) : mendRec l = rollRec l (bestR l) := by unfold mendRec; rw [if_pos h]
theorem endOf_step {l : List Rc} {t : Int} (ht : 1 ≤ t ∧ t ≤ 9) (hs : stateR l t = 2) (hl : l.length < 60) : recErr (l.length + 1 : Nat) (endOf l t) = 0 ∧ followsR l (endOf l t) = true := by
 have hla := lastR_le t l
 constructor
 ·rw [recErr_zero']
  refine ⟨out1_ok (by omega) (by omega), rfl, ?_, rfl⟩
  unfold outOf endOf
  dsimp only
  rw [out1_ok ht.1 ht.2, out1_ok (by omega) (by omega)]
  rfl
 ·unfold followsR endOf
  dsimp only
  rw [hs]
  simp
def needAt (l : List Rc) (t : Int) : Nat := if stateR l t = 2 then 1 else if stateR l t = 1 ∨ stateR l t = 3 then 1 + (standB l t).length else 0
def needR (l : List Rc) : Nat := needAt l 1 + needAt l 2 + needAt l 3 + needAt l 4 + needAt l 5 + needAt l 6 + needAt l 7 + needAt l 8 + needAt l 9
theorem need_other {l : List Rc} {r : Rc} (he : recErr (l.length + 1 : Nat) r = 0) (hf : followsR l r = true) {u : Int} (hu : r.txn ≠ u) : needAt (l ++ [r]) u = needAt l u := by
 unfold needAt
 rw [stateR_snoc he hf, if_neg hu, standB_other he hf hu]
theorem need_step {l : List Rc} {r : Rc} (he : recErr (l.length + 1 : Nat) r = 0) (hf : followsR l r = true) (h : needAt (l ++ [r]) r.txn + 1 = needAt l r.txn) : needR (l ++ [r]) + 1 = needR l := by
 have ht := recErr_txn he
 have g : ∀ u : Int, needAt (l ++ [r]) u + (if r.txn = u then 1 else 0) = needAt l u := fun u => by
  by_cases hu : r.txn = u
  ·rw [if_pos hu, ← hu]; exact h
  ·rw [if_neg hu, need_other he hf hu]; rfl
 have h1 := g 1
 have h2 := g 2
 have h3 := g 3
 have h4 := g 4
 have h5 := g 5
 have h6 := g 6
 have h7 := g 7
 have h8 := g 8
 have h9 := g 9
 unfold needR
 have hc : r.txn = 1 ∨ r.txn = 2 ∨ r.txn = 3 ∨ r.txn = 4 ∨ r.txn = 5 ∨ r.txn = 6 ∨ r.txn = 7 ∨ r.txn = 8 ∨ r.txn = 9 := by omega
 rcases hc with hc | hc | hc | hc | hc | hc | hc | hc | hc <;> rw [hc] at h1 h2 h3 h4 h5 h6 h7 h8 h9 <;> simp at h1 h2 h3 h4 h5 h6 h7 h8 h9 <;> omega
theorem mend_step {l : List Rc} (hR : Right l) (hn : isNext l = true) (hl : l.length < 60) :
  recErr (l.length + 1 : Nat) (mendRec l) = 0 ∧ followsR l (mendRec l) = true ∧ ((mendRec l).kind = 3 ∨ (mendRec l).kind = 4) ∧ needR (l ++ [mendRec l]) + 1 = needR l := by
 by_cases h0 : firstR l = 0
 ·have hb : bestR l ≠ 0 := by
   unfold isNext at hn
   rw [h0] at hn
   simpa using hn
  obtain ⟨ht, hs⟩ := bestR_mem hb
  rw [mendRec_best h0]
  have hr0 := rollErr_of ht hs
  obtain ⟨he, hf⟩ := roll_step hR hr0 hl
  have hk : (rollRec l (bestR l)).kind = 3 ∨ (rollRec l (bestR l)).kind = 4 := by rw [rollRec_kind]; split <;> simp
  refine ⟨he, hf, hk, need_step he hf ?_⟩
  rw [rollRec_txn]
  unfold needAt
  have hsn : stateR (l ++ [rollRec l (bestR l)]) (bestR l) = (rollRec l (bestR l)).kind := by rw [stateR_snoc he hf, if_pos (rollRec_txn _ _)]
  rw [hsn]
  have hs2 : stateR l (bestR l) ≠ 2 := by unfold Hangs at hs; omega
  rw [if_neg hs2, if_pos hs]
  rcases List.eq_nil_or_concat (standB l (bestR l)) with hst | ⟨st, w, hst⟩
  ·rw [rollRec_kind, if_pos hst, hst]
   simp
  ·rw [List.concat_eq_append] at hst
   obtain ⟨_, _, h3, _⟩ := roll_next hR hr0 hl hst
   rw [rollRec_kind, if_neg (by rw [hst]; simp), h3, hst]
   simp
   omega
 ·obtain ⟨ht, hs⟩ := firstR_mem h0
  rw [mendRec_first h0]
  obtain ⟨he, hf⟩ := endOf_step ht hs hl
  refine ⟨he, hf, Or.inr rfl, need_step he hf ?_⟩
  show needAt (l ++ [endOf l (firstR l)]) (firstR l) + 1 = needAt l (firstR l)
  have hsn : stateR (l ++ [endOf l (firstR l)]) (firstR l) = 4 := by rw [stateR_snoc he hf, if_pos (show (endOf l (firstR l)).txn = firstR l from rfl)]; rfl
  unfold needAt
  rw [hsn, hs]
  simp
theorem need_zero {l : List Rc} : needR l = 0 ↔ isNext l = false := by
 have hz : ∀ t, needAt l t = 0 ↔ stateR l t ≠ 2 ∧ ¬ Hangs l t := fun t => by
  unfold needAt Hangs
  by_cases h2 : stateR l t = 2
  ·rw [if_pos h2]; simp [h2]
  ·rw [if_neg h2]
   by_cases h1 : stateR l t = 1 ∨ stateR l t = 3
   ·rw [if_pos h1]
    exact ⟨fun e => by omega, fun e => absurd h1 e.2⟩
   ·rw [if_neg h1]
    exact ⟨fun _ => ⟨h2, h1⟩, fun _ => rfl⟩
 have hall : needR l = 0 ↔ ∀ t, 1 ≤ t → t ≤ 9 → needAt l t = 0 := by
  unfold needR
  constructor
  ·intro h t h1 h2
   have hc : t = 1 ∨ t = 2 ∨ t = 3 ∨ t = 4 ∨ t = 5 ∨ t = 6 ∨ t = 7 ∨ t = 8 ∨ t = 9 := by omega
   rcases hc with rfl | rfl | rfl | rfl | rfl | rfl | rfl | rfl | rfl <;> omega
  ·intro h
   have h1 := h 1 (by omega) (by omega)
   have h2 := h 2 (by omega) (by omega)
   have h3 := h 3 (by omega) (by omega)
   have h4 := h 4 (by omega) (by omega)
   have h5 := h 5 (by omega) (by omega)
   have h6 := h 6 (by omega) (by omega)
   have h7 := h 7 (by omega) (by omega)
   have h8 := h 8 (by omega) (by omega)
   have h9 := h 9 (by omega) (by omega)
   omega
 rw [hall]
 have hnb : isNext l = false ↔ firstR l = 0 ∧ bestR l = 0 := by unfold isNext; simp
 rw [hnb, firstR_zero, bestR_zero]
 constructor
 ·intro h
  refine ⟨fun t h1 h2 => ((hz t).1 (h t h1 h2)).1, ?_⟩
  rw [List.eq_nil_iff_forall_not_mem]
  intro t ht
  obtain ⟨⟨h1, h2⟩, h3⟩ := losersR_mem.1 ht
  exact ((hz t).1 (h t h1 h2)).2 h3
 ·rintro ⟨h1, h2⟩ t h3 h4
  refine (hz t).2 ⟨h1 t h3 h4, fun hh => ?_⟩
  have : t ∈ losersR l := losersR_mem.2 ⟨⟨h3, h4⟩, hh⟩
  rw [h2] at this
  cases this
def mendN : Nat → List Rc → List Rc
 | 0, l => l
 | n + 1, l => if isNext l then mendN n (l ++ [mendRec l]) else l
def mendR (l : List Rc) : List Rc := mendN (needR l) l
theorem mendN_succ {n : Nat} {l : List Rc} (h : isNext l = true) : mendN (n + 1) l = mendN n (l ++ [mendRec l]) := by rw [mendN, if_pos h]
theorem mendN_none {l : List Rc} (h : isNext l = false) : ∀ n, mendN n l = l := by
 intro n
 cases n with
 | zero => rfl
 | succ n => rw [mendN, h]; rfl
theorem mend_ind (P : List Rc → Prop) (hs : ∀ l, Right l → isNext l = true → l.length < 60 → P l → P (l ++ [mendRec l])) :
  ∀ n l, Right l → n ≤ needR l → l.length + n ≤ 60 → P l → Right (mendN n l) ∧ P (mendN n l) ∧ needR (mendN n l) + n = needR l ∧ (mendN n l).length = l.length + n := by
 intro n
 induction n with
 | zero => intro l hR _ _ hP; exact ⟨hR, hP, rfl, rfl⟩
 | succ n ih =>
  intro l hR hn hl hP
  have hx : isNext l = true := by
   cases hx : isNext l
   ·have := need_zero.2 hx; omega
   ·rfl
  obtain ⟨he, hf, _, hd⟩ := mend_step hR hx (by omega)
  rw [mendN_succ hx]
  have := ih (l ++ [mendRec l]) ((right_snoc _ _).2 ⟨hR, he, hf⟩) (by omega) (by simp only [List.length_append, List.length_singleton]; omega) (hs l hR hx (by omega) hP)
  refine ⟨this.1, this.2.1, by omega, ?_⟩
  rw [this.2.2.2, List.length_append, List.length_singleton]
  omega
theorem mendN_add : ∀ (a b : Nat) (l : List Rc), mendN b (mendN a l) = mendN (a + b) l := by
 intro a
 induction a with
 | zero => intro b l; rw [Nat.zero_add]; rfl
 | succ a ih =>
  intro b l
  cases hx : isNext l
  ·rw [mendN_none hx, mendN_none hx, mendN_none hx]
  ·rw [mendN_succ hx, ih, show a + 1 + b = (a + b) + 1 from by omega, mendN_succ hx]
theorem mendR_all {l : List Rc} (hR : Right l) (hl : l.length + needR l ≤ 60) : Right (mendR l) ∧ isNext (mendR l) = false ∧ (mendR l).length = l.length + needR l ∧ cellsR (mendR l) = cellsR l ∧ ∃ m, mendR l = l ++ m := by
 have := mend_ind (fun k => cellsR k = cellsR l ∧ ∃ m, k = l ++ m) (fun k hk hn hlt ⟨h1, m, h2⟩ => by
  obtain ⟨_, hf, hkd, _⟩ := mend_step hk hn hlt
  refine ⟨by rw [cellsR_other hf (by omega), h1], m ++ [mendRec k], by rw [h2, List.append_assoc]⟩) (needR l) l hR (Nat.le_refl _) hl ⟨rfl, [], by simp⟩
 exact ⟨this.1, need_zero.1 (show needR (mendN (needR l) l) = 0 by omega), this.2.2.2, this.2.1.1, this.2.1.2⟩
theorem mendN_min (n : Nat) : ∀ l, Right l → l.length + min n (needR l) ≤ 60 → mendN n l = mendN (min n (needR l)) l := by
 induction n with
 | zero => intro l _ _; rw [Nat.zero_min]
 | succ n ih =>
  intro l hR hl
  cases hx : isNext l
  ·rw [mendN_none hx, mendN_none hx]
  ·have hpos : needR l ≠ 0 := fun e => by rw [need_zero.1 e] at hx; cases hx
   have hlt : l.length < 60 := by omega
   obtain ⟨he, hf, _, hd⟩ := mend_step hR hx hlt
   have hm : min (n + 1) (needR l) = min n (needR (l ++ [mendRec l])) + 1 := by omega
   rw [hm, mendN_succ hx, mendN_succ hx]
   exact ih _ ((right_snoc _ _).2 ⟨hR, he, hf⟩) (by simp only [List.length_append, List.length_singleton]; omega)
theorem mended_calm {l : List Rc} (hR : Right l) (h : isNext l = false) : losersR l = [] ∧ ∀ p, InP p → mustR l p = cellR l p := by
 have hnb : firstR l = 0 ∧ bestR l = 0 := by unfold isNext at h; simpa using h
 have hlo := bestR_zero.1 hnb.2
 refine ⟨hlo, fun p hp => right_calm hR (fun t h1 h2 hh => ?_) hp⟩
 have : t ∈ losersR l := losersR_mem.2 ⟨⟨h1, h2⟩, hh⟩
 rw [hlo] at this
 cases this
end Go.Proofs.YtibfgbmhmdggmaaGreatDoor.B
namespace Go.Proofs.YtibfgbmhmdggmaaGreatDoor.B
set_option maxHeartbeats 32000000
set_option maxRecDepth 100000
open Go.ChangeShapes Go.WideShapes Go.ChangeAt Go.RowKit
def ansP (x : Int) (p : Pg) : Pg := if x = 0 then p else noPg
def ansL (x : Int) (l : List Rc) : List Rc := if x = 0 then l else []
def ansS (x s : Int) : Int := if x = 0 then s else 0
theorem WorkAns.all {base : Nat} {w' : World} {e : Ending} {p q r : Pg} {x : Int} {l' : List Rc} {s : Int} (h : WorkAns base w' e p q r x l' s) :
  ∃ a cap, e = .returned (.tuple #[wdVal (ansP x p) (ansP x q) (ansP x r) (.slice a (ansL x l').length cap) (ansS x s), .int .i64 x]) ∧ Recs w' a (ansL x l').length (ansL x l') := by
 unfold ansP ansL ansS
 rcases h with ⟨rfl, a, cap, rfl, hin, _⟩ | ⟨hx, rfl⟩
 ·exact ⟨a, cap, rfl, hin.recs⟩
 ·simp only [if_neg hx]
  exact ⟨none, 0, rfl, recs_none _⟩
end Go.Proofs.YtibfgbmhmdggmaaGreatDoor.B
