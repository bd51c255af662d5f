/- One record more: what the pages are, and who has which cell. No program in sight. -/
import Derived.Test.YtgojonhjhdbpkaaHold
import Derived.Test.YtgojonhjhdbpkaaBookSpec2
namespace Go.Proofs.Ytgojonhjhdbpkaa.B
set_option maxRecDepth 100000

theorem stand_len60 {l : List Rc} (h : Right l) (k : Int) : (standB l k).length ≤ 60 := by
  have h1 := right_len l h
  by_cases h4 : stateR l k = 4
  · rw [stand_of_4 h4]; simp
  · rw [stand_of_n4 h4, standRecs_length]
    have := standsR_le l k
    omega
/-- Each number of the pages is one that there may be. -/
def PgIn (ps : List Int) : Prop := ∀ i, (i % 4 ≠ 3 → 0 ≤ ps.getD i 0 ∧ ps.getD i 0 ≤ 99) ∧ (i % 4 = 3 → 0 ≤ ps.getD i 0 ∧ ps.getD i 0 ≤ 60)
theorem getD_set (l : List Int) (i j : Nat) (v : Int) : (l.set i v).getD j 0 = if i = j ∧ j < l.length then v else l.getD j 0 := by
  simp only [List.getD_eq_getElem?_getD, List.getElem?_set]
  by_cases h : i = j
  · subst h
    by_cases k : i < l.length
    · simp [k]
    · simp [k]
  · simp [h]
theorem right_pages : ∀ l, Right l → PgIn (pagesR l) := right_ind _ (fun i => by
    have h0 : ([] : List Rc).length = 0 := rfl
    have : (pagesR []).getD i 0 = 0 := by
      simp only [pagesR, foldI, List.getD_eq_getElem?_getD, List.getElem?_replicate]
      split <;> rfl
    rw [this]
    exact ⟨fun _ => by omega, fun _ => by omega⟩) fun l r _ ih he _ i => by
  rw [pagesR_snoc]
  split
  · rename_i ht
    have hf := recErr_fits he ht
    have hv := recErr_vals he ht
    have hn := recErr_num he
    have ih := ih i
    rw [getD_set, getD_set]
    by_cases h3 : r.page.toNat * 4 + 3 = i
    · refine ⟨fun h => by omega, fun _ => ?_⟩
      split
      · omega
      · rename_i hc
        rw [if_neg (by omega)]
        exact ih.2 (by omega)
    · rw [if_neg (by omega)]
      split
      · rename_i hc
        exact ⟨fun _ => by omega, fun h => by omega⟩
      · exact ih
  · exact ih i
def cnt (st : List Rc) (p : Int × Int) : Nat := (st.filter fun r => p.1 == r.page && p.2 == r.cell).length
theorem heldBy_cnt (l : List Rc) (p : Int × Int) (t : Int) : heldBy l p t = cnt (standB l t) p := rfl
theorem cnt_nil (p : Int × Int) : cnt [] p = 0 := rfl
theorem cnt_cons (r : Rc) (st : List Rc) (p : Int × Int) : cnt (r :: st) p = if p = (r.page, r.cell) then cnt st p + 1 else cnt st p := by
  unfold cnt
  have e := eqP p (r.page, r.cell)
  dsimp only at e
  rw [List.filter_cons, e]
  by_cases h : p = (r.page, r.cell) <;> simp [h]
theorem cnt_snoc (r : Rc) (st : List Rc) (p : Int × Int) : cnt (st ++ [r]) p = if p = (r.page, r.cell) then cnt st p + 1 else cnt st p := by
  unfold cnt
  have e := eqP p (r.page, r.cell)
  dsimp only at e
  rw [List.filter_append, List.length_append, List.filter_cons, e]
  by_cases h : p = (r.page, r.cell) <;> simp [h]
theorem cnt_le (st : List Rc) (p : Int × Int) : cnt st p ≤ st.length := List.length_filter_le _ _
theorem Holds.bound {ho : List HE} {c : Int × Int → Int → Nat} (h : Holds ho c) {B : Nat} (hb : ∀ p t, c p t ≤ B) (p : Int × Int) : 0 ≤ (lookH ho p).2 ∧ (lookH ho p).2 ≤ B := by
  rcases look_mem ho p with hm | ⟨_, h0⟩
  · have := h.is _ hm
    dsimp only at this
    have hB := hb p (lookH ho p).1
    omega
  · rw [h0]; simp
theorem Holds.congr {ho : List HE} {c c' : Int × Int → Int → Nat} (h : Holds ho c) (e : ∀ p t, c' p t = c p t) : Holds ho c' :=
  ⟨fun g hg => by rw [e]; exact h.is g hg, fun p t ht => h.all p t (by rw [← e]; exact ht), h.once⟩
theorem held_other {l : List Rc} {r : Rc} (he : recErr (l.length + 1 : Nat) r = 0) (hf : followsR l r = true) {t : Int} (ht : r.txn ≠ t) (p : Int × Int) : heldBy (l ++ [r]) p t = heldBy l p t := by
  rw [heldBy_cnt, heldBy_cnt, standB_other he hf ht]
theorem follows_write {l : List Rc} {r : Rc} (k : r.kind = 1) (hf : followsR l r = true) : takenR l r.txn r.page r.cell = false := by
  unfold followsR at hf
  split at hf
  · cases hf
  · simp only [k, beq_self_eq_true, if_true, Bool.and_eq_true, Bool.not_eq_true'] at hf
    exact hf.2
theorem holds_write {l : List Rc} {r : Rc} {ho : List HE} (hR : Right l) (he : recErr (l.length + 1 : Nat) r = 0) (hf : followsR l r = true) (k : r.kind = 1) (h : Holds ho (heldBy l)) : Holds (writeH ho (r.page, r.cell) r.txn) (heldBy (l ++ [r])) := by
  have ht := follows_write k hf
  refine h.write (fun u hu => ?_) ?_ fun q u hq => ?_
  · by_cases h0 : 0 < heldBy l (r.page, r.cell) u
    · have := (taken_iff hR r.txn r.page r.cell).2 ⟨u, hu, h0⟩
      rw [ht] at this; cases this
    · omega
  · rw [heldBy_cnt, heldBy_cnt, standB_write he hf k, cnt_snoc, if_pos rfl]
  · by_cases hu : r.txn = u
    · subst hu
      rw [heldBy_cnt, heldBy_cnt, standB_write he hf k, cnt_snoc, if_neg (fun e => hq ⟨e, rfl⟩)]
    · exact held_other he hf hu q
theorem holds_commit {l : List Rc} {r : Rc} {ho : List HE} (he : recErr (l.length + 1 : Nat) r = 0) (hf : followsR l r = true) (k : r.kind = 2) (h : Holds ho (heldBy l)) : Holds ho (heldBy (l ++ [r])) :=
  h.congr fun p t => by
    by_cases hu : r.txn = t
    · subst hu; rw [heldBy_cnt, heldBy_cnt, standB_commit he hf k]
    · exact held_other he hf hu p
/-- What a Back takes back is the last Write that stands. -/
theorem back_last {l : List Rc} {r : Rc} (hf : followsR l r = true) (k : r.kind = 3) : ∃ st w, standB l r.txn = st ++ [w] ∧ r.page = w.page ∧ r.cell = w.cell := by
  obtain ⟨_, s4, _, _⟩ := follows_ok hf
  obtain ⟨n, w, hs, hw, hp, hc, _⟩ := follows_back k hf
  have hl : (standB l r.txn).getLast? = some w := by
    rw [stand_of_n4 s4, standRecs_last, hs]
    exact hw
  have hne : standB l r.txn ≠ [] := by intro e; rw [e] at hl; cases hl
  refine ⟨(standB l r.txn).dropLast, w, ?_, hp, hc⟩
  rw [List.getLast?_eq_some_getLast hne] at hl
  injection hl with hl
  rw [← hl]
  exact (List.dropLast_concat_getLast hne).symm
theorem holds_back {l : List Rc} {r : Rc} {ho : List HE} (hR : Right l) (he : recErr (l.length + 1 : Nat) r = 0) (hf : followsR l r = true) (k : r.kind = 3) (h : Holds ho (heldBy l)) : Holds (letGoH ho (r.page, r.cell)) (heldBy (l ++ [r])) ∧ 0 < (lookH ho (r.page, r.cell)).2 := by
  obtain ⟨st, w, hst, hp, hc⟩ := back_last hf k
  have hd : standB (l ++ [r]) r.txn = st := by rw [standB_back hR he hf k, hst]; simp
  have h1 : heldBy l (r.page, r.cell) r.txn = cnt st (r.page, r.cell) + 1 := by rw [heldBy_cnt, hst, cnt_snoc, if_pos (by rw [hp, hc])]
  have hpos : 0 < heldBy l (r.page, r.cell) r.txn := by omega
  refine ⟨h.letGo hpos ?_ fun q u hq => ?_, ?_⟩
  · rw [h1, heldBy_cnt, hd]; omega
  · by_cases hu : r.txn = u
    · subst hu
      rw [heldBy_cnt, heldBy_cnt, hd, hst, cnt_snoc, if_neg (fun e => hq ⟨by rw [e, hp, hc], rfl⟩)]
    · exact held_other he hf hu q
  · rw [(h.look hpos).1]; dsimp only; omega
def letGos (ho : List HE) (st : List Rc) : List HE := st.foldl (fun ho r => letGoH ho (r.page, r.cell)) ho
theorem letGos_take (ho : List HE) (st : List Rc) (k : Nat) (h : k < st.length) : letGos ho (st.take (k + 1)) = letGoH (letGos ho (st.take k)) (st[k].page, st[k].cell) := by
  unfold letGos
  rw [take_snoc st k h, List.foldl_append]
  rfl
theorem cnt_drop (st : List Rc) (k : Nat) (h : k < st.length) (p : Int × Int) : cnt (st.drop k) p = if p = (st[k].page, st[k].cell) then cnt (st.drop (k + 1)) p + 1 else cnt (st.drop (k + 1)) p := by
  rw [List.drop_eq_getElem_cons h, cnt_cons]
theorem holds_gos {l : List Rc} {t : Int} {ho : List HE} (h : Holds ho (heldBy l)) : ∀ k, k ≤ (standB l t).length → Holds (letGos ho ((standB l t).take k)) fun p u => if u = t then cnt ((standB l t).drop k) p else heldBy l p u := by
  intro k
  induction k with
  | zero =>
    intro _
    refine Holds.congr h fun p u => ?_
    by_cases e : u = t
    · rw [if_pos e, e]; rfl
    · rw [if_neg e]
  | succ k ih =>
    intro hk
    have ih := ih (by omega)
    rw [letGos_take _ _ k (by omega)]
    refine ih.letGo (t := t) ?_ ?_ fun q u hq => ?_
    · rw [if_pos rfl, cnt_drop _ k (by omega), if_pos rfl]; omega
    · rw [if_pos rfl, if_pos rfl, cnt_drop _ k (by omega), if_pos rfl]; omega
    · by_cases e : u = t
      · rw [if_pos e, if_pos e, cnt_drop _ k (by omega) q, if_neg (fun x => hq ⟨x, e⟩)]
      · rw [if_neg e, if_neg e]
theorem gos_pos {l : List Rc} (hR : Right l) {t : Int} {ho : List HE} (h : Holds ho (heldBy l)) : ∀ k, (hk : k < (standB l t).length) → 0 < (lookH (letGos ho ((standB l t).take k)) ((standB l t)[k].page, (standB l t)[k].cell)).2 ∧ (lookH (letGos ho ((standB l t).take k)) ((standB l t)[k].page, (standB l t)[k].cell)).2 < 1000 := by
  intro k hk
  have hh := holds_gos (t := t) h k (by omega)
  have hpos : 0 < (if t = t then cnt ((standB l t).drop k) ((standB l t)[k].page, (standB l t)[k].cell) else heldBy l ((standB l t)[k].page, (standB l t)[k].cell) t) := by
    rw [if_pos rfl, cnt_drop _ k hk, if_pos rfl]; omega
  have hl := (hh.look hpos).1
  rw [hl]
  dsimp only
  rw [if_pos rfl] at hpos ⊢
  have h1 := cnt_le ((standB l t).drop k) ((standB l t)[k].page, (standB l t)[k].cell)
  have h2 := stand_len60 hR t
  have h3 : ((standB l t).drop k).length = (standB l t).length - k := List.length_drop
  omega
theorem holds_end {l : List Rc} {r : Rc} {ho : List HE} (he : recErr (l.length + 1 : Nat) r = 0) (hf : followsR l r = true) (k : r.kind = 4) (h : Holds ho (heldBy l)) : Holds (letGos ho (standB l r.txn)) (heldBy (l ++ [r])) := by
  have hh := holds_gos (t := r.txn) h (standB l r.txn).length (Nat.le_refl _)
  rw [List.take_of_length_le (Nat.le_refl _)] at hh
  refine hh.congr fun p u => ?_
  by_cases e : u = r.txn
  · rw [if_pos e, e, heldBy_cnt, standB_end he hf k, List.drop_of_length_le (Nat.le_refl _)]
  · rw [if_neg e]; exact held_other he hf (fun x => e x.symm) p
theorem held_bound {l : List Rc} (hR : Right l) (p : Int × Int) (t : Int) : heldBy l p t ≤ 60 := Nat.le_trans (cnt_le _ _) (stand_len60 hR t)
end Go.Proofs.Ytgojonhjhdbpkaa.B
