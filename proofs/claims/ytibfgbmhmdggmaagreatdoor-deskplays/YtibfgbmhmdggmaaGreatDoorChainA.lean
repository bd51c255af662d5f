/- One record more: what the pages are, and who has which cell. No program in sight. What right logs keep: a cell has one owner at most; the Writes of one that stand follow each other, up to what the cell is; a Txn's state never goes back. No Go in sight. What right logs keep: wherever one is cut, it is right; states never go back; the Writes that stand, as a stack; who is over without a Commit has turned nothing. No Go in sight. What must be, as a plain function of a list of records; what right logs keep of it: it turns by a Commit alone, and, if nobody hangs, it is what the cells are. No Go in sight. -/
import Derived.Test.YtibfgbmhmdggmaaGreatDoorBookA
namespace Go.Proofs.YtibfgbmhmdggmaaGreatDoor.B
set_option maxHeartbeats 32000000
set_option maxRecDepth 100000
theorem stand_len60 {l : List Rc} (h : Right l) (k : Int) : (standB l k).length ≤ 60 := by
 have h1 := right_len l h
 by_cases h4 : stateR l k = 4
 ·rw [stand_of_4 h4]; simp
 ·rw [stand_of_n4 h4, standRecs_length]
  have := standsR_le l k
  omega
def PgIn (ps : List Int) : Prop := ∀ i, (i % 4 ≠ 3 → 0 ≤ ps.getD i 0 ∧ ps.getD i 0 ≤ 99) ∧ (i % 4 = 3 → 0 ≤ ps.getD i 0 ∧ ps.getD i 0 ≤ 60)
theorem getD_set (l : List Int) (i j : Nat) (v : Int) : (l.set i v).getD j 0 = if i = j ∧ j < l.length then v else l.getD j 0 := by
 simp only [List.getD_eq_getElem?_getD, List.getElem?_set]
 by_cases h : i = j
 ·subst h
  by_cases k : i < l.length
  ·simp [k]
  ·simp [k]
 ·simp [h]
theorem right_pages : ∀ l, Right l → PgIn (pagesR l) := right_ind _ (fun i => by
  have h0 : ([] : List Rc).length = 0 := rfl
  have : (pagesR []).getD i 0 = 0 := by
   simp only [pagesR, foldI, List.getD_eq_getElem?_getD, List.getElem?_replicate]
   split <;> rfl
  rw [this]
  exact ⟨fun _ => by omega, fun _ => by omega⟩) fun l r _ ih he _ i => by
 rw [pagesR_snoc]
 split
 ·rename_i ht
  have hf := recErr_fits he ht
  have hv := recErr_vals he ht
  have hn := recErr_num he
  have ih := ih i
  rw [getD_set, getD_set]
  by_cases h3 : r.page.toNat * 4 + 3 = i
  ·refine ⟨fun h => by omega, fun _ => ?_⟩
   split
   ·omega
   ·rename_i hc
    rw [if_neg (by omega)]
    exact ih.2 (by omega)
  ·rw [if_neg (by omega)]
   split
   ·rename_i hc
    exact ⟨fun _ => by omega, fun h => by omega⟩
   ·exact ih
 ·exact ih i
def cnt (st : List Rc) (p : Int × Int) : Nat := (st.filter fun r => p.1 == r.page && p.2 == r.cell).length
theorem heldBy_cnt (l : List Rc) (p : Int × Int) (t : Int) : heldBy l p t = cnt (standB l t) p := rfl
theorem cnt_cons (r : Rc) (st : List Rc) (p : Int × Int) : cnt (r :: st) p = if p = (r.page, r.cell) then cnt st p + 1 else cnt st p := by
 unfold cnt
 have e := eqP p (r.page, r.cell)
 dsimp only at e
 rw [List.filter_cons, e]
 by_cases h : p = (r.page, r.cell) <;> simp [h]
theorem cnt_snoc (r : Rc) (st : List Rc) (p : Int × Int) : cnt (st ++ [r]) p = if p = (r.page, r.cell) then cnt st p + 1 else cnt st p := by
 unfold cnt
 have e := eqP p (r.page, r.cell)
 dsimp only at e
 rw [List.filter_append, List.length_append, List.filter_cons, e]
 by_cases h : p = (r.page, r.cell) <;> simp [h]
theorem cnt_le (st : List Rc) (p : Int × Int) : cnt st p ≤ st.length := List.length_filter_le _ _
theorem Holds.bound {ho : List HE} {c : Int × Int → Int → Nat} (h : Holds ho c) {B : Nat} (hb : ∀ p t, c p t ≤ B) (p : Int × Int) : 0 ≤ (lookH ho p).2 ∧ (lookH ho p).2 ≤ B := by
 rcases look_mem ho p with hm | ⟨_, h0⟩
 ·have := h.is _ hm
  dsimp only at this
  have hB := hb p (lookH ho p).1
  omega
 ·rw [h0]; simp
theorem Holds.congr {ho : List HE} {c c' : Int × Int → Int → Nat} (h : Holds ho c) (e : ∀ p t, c' p t = c p t) : Holds ho c' :=
 ⟨fun g hg => by rw [e]; exact h.is g hg, fun p t ht => h.all p t (by rw [← e]; exact ht), h.once⟩
theorem held_other {l : List Rc} {r : Rc} (he : recErr (l.length + 1 : Nat) r = 0) (hf : followsR l r = true) {t : Int} (ht : r.txn ≠ t) (p : Int × Int) : heldBy (l ++ [r]) p t = heldBy l p t := by
 rw [heldBy_cnt, heldBy_cnt, standB_other he hf ht]
theorem follows_write {l : List Rc} {r : Rc} (k : r.kind = 1) (hf : followsR l r = true) : takenR l r.txn r.page r.cell = false := by
 unfold followsR at hf
 split at hf
 ·cases hf
 ·simp only [k, beq_self_eq_true, if_true, Bool.and_eq_true, Bool.not_eq_true'] at hf
  exact hf.2
theorem holds_write {l : List Rc} {r : Rc} {ho : List HE} (hR : Right l) (he : recErr (l.length + 1 : Nat) r = 0) (hf : followsR l r = true) (k : r.kind = 1) (h : Holds ho (heldBy l)) : Holds (writeH ho (r.page, r.cell) r.txn) (heldBy (l ++ [r])) := by
 have ht := follows_write k hf
 refine h.write (fun u hu => ?_) ?_ fun q u hq => ?_
 ·by_cases h0 : 0 < heldBy l (r.page, r.cell) u
  ·have := (taken_iff hR r.txn r.page r.cell).2 ⟨u, hu, h0⟩
   rw [ht] at this; cases this
  ·omega
 ·rw [heldBy_cnt, heldBy_cnt, standB_write he hf k, cnt_snoc, if_pos rfl]
 ·by_cases hu : r.txn = u
  ·subst hu
   rw [heldBy_cnt, heldBy_cnt, standB_write he hf k, cnt_snoc, if_neg (fun e => hq ⟨e, rfl⟩)]
  ·exact held_other he hf hu q
theorem holds_commit {l : List Rc} {r : Rc} {ho : List HE} (he : recErr (l.length + 1 : Nat) r = 0) (hf : followsR l r = true) (k : r.kind = 2) (h : Holds ho (heldBy l)) : Holds ho (heldBy (l ++ [r])) :=
 h.congr fun p t => by
  by_cases hu : r.txn = t
  ·subst hu; rw [heldBy_cnt, heldBy_cnt, standB_commit he hf k]
  ·exact held_other he hf hu p
theorem back_last {l : List Rc} {r : Rc} (hf : followsR l r = true) (k : r.kind = 3) : ∃ st w, standB l r.txn = st ++ [w] ∧ r.page = w.page ∧ r.cell = w.cell := by
 obtain ⟨_, s4, _, _⟩ := follows_ok hf
 obtain ⟨n, w, hs, hw, hp, hc, _⟩ := follows_back k hf
 have hl : (standB l r.txn).getLast? = some w := by
  rw [stand_of_n4 s4, standRecs_last, hs]
  exact hw
 have hne : standB l r.txn ≠ [] := by intro e; rw [e] at hl; cases hl
 refine ⟨(standB l r.txn).dropLast, w, ?_, hp, hc⟩
 rw [List.getLast?_eq_some_getLast hne] at hl
 injection hl with hl
 rw [← hl]
 exact (List.dropLast_concat_getLast hne).symm
theorem holds_back {l : List Rc} {r : Rc} {ho : List HE} (hR : Right l) (he : recErr (l.length + 1 : Nat) r = 0) (hf : followsR l r = true) (k : r.kind = 3) (h : Holds ho (heldBy l)) : Holds (letGoH ho (r.page, r.cell)) (heldBy (l ++ [r])) ∧ 0 < (lookH ho (r.page, r.cell)).2 := by
 obtain ⟨st, w, hst, hp, hc⟩ := back_last hf k
 have hd : standB (l ++ [r]) r.txn = st := by rw [standB_back hR he hf k, hst]; simp
 have h1 : heldBy l (r.page, r.cell) r.txn = cnt st (r.page, r.cell) + 1 := by rw [heldBy_cnt, hst, cnt_snoc, if_pos (by rw [hp, hc])]
 have hpos : 0 < heldBy l (r.page, r.cell) r.txn := by omega
 refine ⟨h.letGo hpos ?_ fun q u hq => ?_, ?_⟩
 ·rw [h1, heldBy_cnt, hd]; omega
 ·by_cases hu : r.txn = u
  ·subst hu
   rw [heldBy_cnt, heldBy_cnt, hd, hst, cnt_snoc, if_neg (fun e => hq ⟨by rw [e, hp, hc], rfl⟩)]
  ·exact held_other he hf hu q
 ·rw [(h.look hpos).1]; dsimp only; omega
def letGos (ho : List HE) (st : List Rc) : List HE := st.foldl (fun ho r => letGoH ho (r.page, r.cell)) ho
theorem letGos_take (ho : List HE) (st : List Rc) (k : Nat) (h : k < st.length) : letGos ho (st.take (k + 1)) = letGoH (letGos ho (st.take k)) (st[k].page, st[k].cell) := by
 unfold letGos
 rw [take_snoc st k h, List.foldl_append]
 rfl
theorem cnt_drop (st : List Rc) (k : Nat) (h : k < st.length) (p : Int × Int) : cnt (st.drop k) p = if p = (st[k].page, st[k].cell) then cnt (st.drop (k + 1)) p + 1 else cnt (st.drop (k + 1)) p := by
 rw [List.drop_eq_getElem_cons h, cnt_cons]
theorem holds_gos {l : List Rc} {t : Int} {ho : List HE} (h : Holds ho (heldBy l)) : ∀ k, k ≤ (standB l t).length → Holds (letGos ho ((standB l t).take k)) fun p u => if u = t then cnt ((standB l t).drop k) p else heldBy l p u := by
 intro k
 induction k with
 | zero =>
  intro _
  refine Holds.congr h fun p u => ?_
  by_cases e : u = t
  ·rw [if_pos e, e]; rfl
  ·rw [if_neg e]
 | succ k ih =>
  intro hk
  have ih := ih (by omega)
  rw [letGos_take _ _ k (by omega)]
  refine ih.letGo (t := t) ?_ ?_ fun q u hq => ?_
  ·rw [if_pos rfl, cnt_drop _ k (by omega), if_pos rfl]; omega
  ·rw [if_pos rfl, if_pos rfl, cnt_drop _ k (by omega), if_pos rfl]; omega
  ·by_cases e : u = t
   ·rw [if_pos e, if_pos e, cnt_drop _ k (by omega) q, if_neg (fun x => hq ⟨x, e⟩)]
   ·rw [if_neg e, if_neg e]
theorem gos_pos {l : List Rc} (hR : Right l) {t : Int} {ho : List HE} (h : Holds ho (heldBy l)) : ∀ k, (hk : k < (standB l t).length) → 0 < (lookH (letGos ho ((standB l t).take k)) ((standB l t)[k].page, (standB l t)[k].cell)).2 ∧ (lookH (letGos ho ((standB l t).take k)) ((standB l t)[k].page, (standB l t)[k].cell)).2 < 1000 := by
 intro k hk
 have hh := holds_gos (t := t) h k (by omega)
 have hpos : 0 < (if t = t then cnt ((standB l t).drop k) ((standB l t)[k].page, (standB l t)[k].cell) else heldBy l ((standB l t)[k].page, (standB l t)[k].cell) t) := by
  rw [if_pos rfl, cnt_drop _ k hk, if_pos rfl]; omega
 have hl := (hh.look hpos).1
 rw [hl]
 dsimp only
 rw [if_pos rfl] at hpos ⊢
 have h1 := cnt_le ((standB l t).drop k) ((standB l t)[k].page, (standB l t)[k].cell)
 have h2 := stand_len60 hR t
 have h3 : ((standB l t).drop k).length = (standB l t).length - k := List.length_drop
 omega
theorem holds_end {l : List Rc} {r : Rc} {ho : List HE} (he : recErr (l.length + 1 : Nat) r = 0) (hf : followsR l r = true) (k : r.kind = 4) (h : Holds ho (heldBy l)) : Holds (letGos ho (standB l r.txn)) (heldBy (l ++ [r])) := by
 have hh := holds_gos (t := r.txn) h (standB l r.txn).length (Nat.le_refl _)
 rw [List.take_of_length_le (Nat.le_refl _)] at hh
 refine hh.congr fun p u => ?_
 by_cases e : u = r.txn
 ·rw [if_pos e, e, heldBy_cnt, standB_end he hf k, List.drop_of_length_le (Nat.le_refl _)]
 ·rw [if_neg e]; exact held_other he hf (fun x => e x.symm) p
theorem held_bound {l : List Rc} (hR : Right l) (p : Int × Int) (t : Int) : heldBy l p t ≤ 60 := Nat.le_trans (cnt_le _ _) (stand_len60 hR t)
theorem taken_none {l : List Rc} (hR : Right l) {t p c : Int} (h : takenR l t p c = false) {u : Int} (hu : u ≠ t) : heldBy l (p, c) u = 0 := by
 by_cases h0 : 0 < heldBy l (p, c) u
 ·have := (taken_iff hR t p c).2 ⟨u, hu, h0⟩
  rw [h] at this; cases this
 ·omega
theorem held_step {l : List Rc} {r : Rc} (hR : Right l) (he : recErr (l.length + 1 : Nat) r = 0) (hf : followsR l r = true) (p : Int × Int) (t : Int) :
  heldBy (l ++ [r]) p t ≤ heldBy l p t ∨ (r.kind = 1 ∧ r.txn = t ∧ p = (r.page, r.cell)) := by
 by_cases ht : r.txn = t
 ·subst ht
  rcases recErr_kind he with k | k | k | k
  ·rw [heldBy_cnt, heldBy_cnt, standB_write he hf k, cnt_snoc]
   by_cases hp : p = (r.page, r.cell)
   ·exact Or.inr ⟨k, rfl, hp⟩
   ·rw [if_neg hp]; exact Or.inl (Nat.le_refl _)
  ·rw [heldBy_cnt, heldBy_cnt, standB_commit he hf k]; exact Or.inl (Nat.le_refl _)
  ·obtain ⟨st, w, hst, _, _⟩ := back_last hf k
   rw [heldBy_cnt, heldBy_cnt, standB_back hR he hf k, hst, cnt_snoc]
   left
   simp only [List.dropLast_concat]
   split <;> omega
  ·rw [heldBy_cnt, heldBy_cnt, standB_end he hf k]; exact Or.inl (Nat.zero_le _)
 ·left; rw [held_other he hf ht]; exact Nat.le_refl _
theorem stand_nil' (t : Int) : standB [] t = [] := by simp [standB, standRecs, standsR, writesR, foldI]
theorem right_alone : ∀ l, Right l → ∀ p t u, 0 < heldBy l p t → 0 < heldBy l p u → t = u := right_ind _
 (fun p t u h => by rw [heldBy_cnt] at h; simp [standB, standRecs, standsR, writesR, foldI, cnt] at h)
 fun l r hR ih he hf p t u ht hu => by
  rcases held_step hR he hf p t with h1 | ⟨k, h1, hp⟩
  ·rcases held_step hR he hf p u with h2 | ⟨k, h2, hp⟩
   ·exact ih p t u (by omega) (by omega)
   ·by_cases e : t = u
    ·exact e
    ·have := taken_none hR (follows_write k hf) (u := t) (by rw [h2]; exact e)
     rw [← hp] at this; omega
  ·by_cases e : t = u
   ·exact e
   ·have h3 := taken_none hR (follows_write k hf) (u := u) (by rw [h1]; exact fun x => e x.symm)
    rw [← hp] at h3
    rw [held_other he hf (by rw [h1]; exact e)] at hu
    omega
def cellR (l : List Rc) (p : Int × Int) : Int := (pagesR l).getD (p.1.toNat * 4 + p.2.toNat) 0
abbrev InP (p : Int × Int) : Prop := 0 ≤ p.1 ∧ p.1 ≤ 2 ∧ 0 ≤ p.2 ∧ p.2 ≤ 2
theorem cellR_snoc {l : List Rc} {r : Rc} {n : Int} (he : recErr n r = 0) {p : Int × Int} (hp : InP p) : cellR (l ++ [r]) p = if turns r = true ∧ p = (r.page, r.cell) then r.new else cellR l p := by
 unfold cellR
 rw [pagesR_snoc]
 cases ht : turns r
 ·simp
 ·have hf := recErr_fits he ht
  obtain ⟨p1, p2⟩ := p
  obtain ⟨h1, h2, h3, h4⟩ := hp
  dsimp only at h1 h2 h3 h4 ⊢
  simp only [if_true, true_and]
  rw [getD_set, getD_set, if_neg (by omega)]
  have hl := pagesR_len l
  by_cases e : (p1, p2) = (r.page, r.cell)
  ·rw [if_pos e]
   obtain ⟨e1, e2⟩ := Prod.mk.inj e
   rw [if_pos (by rw [hl, e1, e2]; omega)]
  ·rw [if_neg e, if_neg]
   rintro ⟨h, _⟩
   exact e (Prod.ext (by dsimp only; omega) (by dsimp only; omega))
def linked : Int → List Rc → Int → Prop
 | a, [], b => a = b
 | a, w :: ws, b => w.old = a ∧ linked w.new ws b
theorem linked_snoc (w : Rc) : ∀ (ws : List Rc) (a b : Int), linked a (ws ++ [w]) b ↔ linked a ws w.old ∧ w.new = b := by
 intro ws
 induction ws with
 | nil => intro a b; simp only [List.nil_append, linked]; constructor <;> rintro ⟨h1, h2⟩ <;> exact ⟨h1.symm, h2⟩
 | cons x ws ih => intro a b; simp only [List.cons_append, linked, ih, and_assoc]
def atP (st : List Rc) (p : Int × Int) : List Rc := st.filter fun r => p.1 == r.page && p.2 == r.cell
theorem atP_snoc (st : List Rc) (r : Rc) (p : Int × Int) : atP (st ++ [r]) p = if p = (r.page, r.cell) then atP st p ++ [r] else atP st p := by
 unfold atP
 have e := eqP p (r.page, r.cell)
 dsimp only at e
 rw [List.filter_append, List.filter_cons, e]
 by_cases h : p = (r.page, r.cell) <;> simp [h]
theorem atP_none {l : List Rc} {p : Int × Int} {t : Int} (h : heldBy l p t = 0) : atP (standB l t) p = [] := List.length_eq_zero_iff.1 h
theorem follows_old {l : List Rc} {r : Rc} (k : r.kind = 1) (hf : followsR l r = true) : r.old = cellR l (r.page, r.cell) := by
 unfold followsR at hf
 split at hf
 ·cases hf
 ·simp only [k, beq_self_eq_true, if_true, Bool.and_eq_true, beq_iff_eq] at hf
  exact hf.1
theorem back_last' {l : List Rc} {r : Rc} (hf : followsR l r = true) (k : r.kind = 3) : ∃ st w, standB l r.txn = st ++ [w] ∧ r.page = w.page ∧ r.cell = w.cell ∧ r.new = w.old := by
 obtain ⟨_, s4, _, _⟩ := follows_ok hf
 obtain ⟨n, w, hs, hw, hp, hc, _, hn, _⟩ := follows_back k hf
 have hl : (standB l r.txn).getLast? = some w := by
  rw [stand_of_n4 s4, standRecs_last, hs]
  exact hw
 have hne : standB l r.txn ≠ [] := by intro e; rw [e] at hl; cases hl
 refine ⟨(standB l r.txn).dropLast, w, ?_, hp, hc, hn⟩
 rw [List.getLast?_eq_some_getLast hne] at hl
 injection hl with hl
 rw [← hl]
 exact (List.dropLast_concat_getLast hne).symm
theorem right_pre {l : List Rc} (h : Right l) (n : Nat) : Right (l.take n) := by
 by_cases hn : n ≤ l.length
 ·rw [← right_take hn]
  by_cases h0 : errTo l n = 0
  ·exact h0
  ·have := errTo_keep l n h0 (l.length - n)
   rw [show n + (l.length - n) = l.length from by omega] at this
   unfold Right at h
   rw [h] at this
   exact this.symm
 ·rw [List.take_of_length_le (by omega)]; exact h
theorem logErr_of {l : List Rc} (h : Right l) : logErr l = 0 := by
 unfold logErr
 rw [if_neg (by have := right_len l h; omega)]
 exact h
theorem logErr_pre {l : List Rc} (h : logErr l = 0) (n : Nat) : logErr (l.take n) = 0 := logErr_of (right_pre (logErr_zero h).2 n)
structure Further (a b : List Rc) (t : Int) : Prop where
 state : stateR a t ≤ stateR b t
 two : stateR a t = 2 → stateR b t = 2 ∨ stateR b t = 4
 last : lastR a t ≤ lastR b t
theorem Further.refl (a : List Rc) (t : Int) : Further a a t := ⟨Int.le_refl _, Or.inl, Nat.le_refl _⟩
theorem Further.trans {a b c : List Rc} {t : Int} (h : Further a b t) (k : Further b c t) : Further a c t :=
 ⟨Int.le_trans h.state k.state, fun e => by
  rcases h.two e with e2 | e2
  ·exact k.two e2
  ·have := k.state
   rcases stateR_range c t with x | x | x | x | x <;> omega, Nat.le_trans h.last k.last⟩
def stackR (l : List Rc) (t : Int) : List Rc := foldI (fun st _ r => if r.txn == t then (if r.kind == 1 then st ++ [r] else if r.kind == 3 then st.dropLast else st) else st) [] 0 l
theorem stackR_snoc (l : List Rc) (r : Rc) (t : Int) : stackR (l ++ [r]) t = if r.txn == t then (if r.kind == 1 then stackR l t ++ [r] else if r.kind == 3 then (stackR l t).dropLast else stackR l t) else stackR l t := foldI_snoc _ _ _ _
theorem stack_eq (t : Int) : ∀ l, Right l → stateR l t ≠ 4 → stackR l t = standB l t := right_ind _ (fun _ => by rw [stand_nil']; rfl)
 fun l r hR ih he hf h4 => by
  rw [stackR_snoc]
  by_cases ht : r.txn = t
  ·subst ht
   obtain ⟨_, s4, _, _⟩ := follows_ok hf
   rw [beq_self_eq_true, if_pos rfl, ih s4]
   rw [stateR_snoc he hf, if_pos rfl] at h4
   rcases recErr_kind he with k | k | k | k
   ·rw [standB_write he hf k, k]; rfl
   ·rw [standB_commit he hf k, k]; rfl
   ·rw [standB_back hR he hf k, k]; rfl
   ·exact absurd k h4
  ·have hb : (r.txn == t) = false := by simpa using ht
   rw [stateR_snoc he hf, if_neg ht] at h4
   rw [hb, standB_other he hf ht]
   exact ih h4
theorem right_follows {l : List Rc} (hR : Right l) {j : Nat} {x : Rc} (hx : l[j]? = some x) : recErr ((l.take j).length + 1 : Nat) x = 0 ∧ followsR (l.take j) x = true := by
 obtain ⟨hj, hx⟩ := List.getElem?_eq_some_iff.1 hx
 have := right_pre hR (j + 1)
 rw [take_snoc l j hj, right_snoc, hx] at this
 exact this.2
def winsR (l : List Rc) : List Int := foldI (fun ws _ r => if r.kind == 2 then ws ++ [r.txn] else ws) [] 0 l
theorem winsR_snoc (l : List Rc) (r : Rc) : winsR (l ++ [r]) = if r.kind == 2 then winsR l ++ [r.txn] else winsR l := foldI_snoc _ _ _ _
theorem winsR_take (l : List Rc) (k : Nat) (h : k < l.length) : winsR (l.take (k + 1)) = if l[k].kind == 2 then winsR (l.take k) ++ [l[k].txn] else winsR (l.take k) := foldI_take _ _ _ _ h
theorem winsR_le : ∀ l : List Rc, (winsR l).length ≤ l.length := list_snoc _ (Nat.le_refl _) fun l r ih => by
 rw [winsR_snoc]; simp only [List.length_append, List.length_singleton]; split
 ·simp only [List.length_append, List.length_singleton]; omega
 ·omega
theorem wins_count (t : Int) : ∀ l : List Rc, (winsR l).contains t = decide (0 < countR l t 2) := list_snoc _ rfl fun l r ih => by
 rw [winsR_snoc, countR_snoc]
 cases hk : (r.kind == 2)
 ·simpa using ih
 ·by_cases ht : r.txn = t
  ·subst ht; simp
  ·have hb : (r.txn == t) = false := by simpa using ht
   have hb2 : (t == r.txn) = false := by simpa using (fun e => ht e.symm : t ≠ r.txn)
   simp only [hb, Bool.false_and, Bool.false_eq_true, if_false, if_true]
   rw [← ih]
   simp only [List.contains_eq_any_beq, List.any_append, List.any_cons, List.any_nil, hb2, Bool.or_false]
def cellsBy (win : Int → Bool) (l : List Rc) : List Int := foldI (fun cs _ r => if r.kind == 1 && win r.txn then cs.set (r.page.toNat * 3 + r.cell.toNat) r.new else cs) (List.replicate 9 0) 0 l
theorem cellsBy_snoc (win : Int → Bool) (l : List Rc) (r : Rc) : cellsBy win (l ++ [r]) = if r.kind == 1 && win r.txn then (cellsBy win l).set (r.page.toNat * 3 + r.cell.toNat) r.new else cellsBy win l := foldI_snoc _ _ _ _
theorem cellsBy_take (win : Int → Bool) (l : List Rc) (k : Nat) (h : k < l.length) : cellsBy win (l.take (k + 1)) = if l[k].kind == 1 && win l[k].txn then (cellsBy win (l.take k)).set (l[k].page.toNat * 3 + l[k].cell.toNat) l[k].new else cellsBy win (l.take k) := foldI_take _ _ _ _ h
theorem cellsBy_len (win : Int → Bool) : ∀ l : List Rc, (cellsBy win l).length = 9 := list_snoc _ rfl fun l r ih => by
 rw [cellsBy_snoc]; split
 ·simpa using ih
 ·exact ih
def wonB (l : List Rc) (t : Int) : Bool := decide (0 < countR l t 2)
def cellsR (l : List Rc) : List Int := cellsBy (wonB l) l
theorem cellsR_len (l : List Rc) : (cellsR l).length = 9 := cellsBy_len _ l
def cellW (win : Int → Bool) (l : List Rc) (p : Int × Int) : Int := (cellsBy win l).getD (p.1.toNat * 3 + p.2.toNat) 0
def mustR (l : List Rc) (p : Int × Int) : Int := (cellsR l).getD (p.1.toNat * 3 + p.2.toNat) 0
theorem cellW_snoc {win : Int → Bool} {l : List Rc} {r : Rc} {n : Int} (he : recErr n r = 0) {p : Int × Int} (hp : InP p) : cellW win (l ++ [r]) p = if r.kind = 1 ∧ win r.txn = true ∧ p = (r.page, r.cell) then r.new else cellW win l p := by
 unfold cellW
 rw [cellsBy_snoc]
 by_cases k : r.kind = 1
 ·have hf := recErr_fits he (turns_of.2 (Or.inl k))
  cases hw : win r.txn
  ·simp
  ·obtain ⟨p1, p2⟩ := p
   obtain ⟨h1, h2, h3, h4⟩ := hp
   dsimp only at h1 h2 h3 h4 ⊢
   rw [k]
   simp only [beq_self_eq_true, Bool.and_self, if_true, true_and]
   rw [getD_set, cellsBy_len]
   by_cases e : (p1, p2) = (r.page, r.cell)
   ·rw [if_pos e]
    obtain ⟨e1, e2⟩ := Prod.mk.inj e
    rw [if_pos (by rw [e1, e2]; omega)]
   ·rw [if_neg e, if_neg]
    rintro ⟨h, _⟩
    exact e (Prod.ext (by dsimp only; omega) (by dsimp only; omega))
 ·have hb : (r.kind == 1) = false := by simpa using k
  rw [hb, Bool.false_and, if_neg Bool.false_ne_true, if_neg (fun x : r.kind = 1 ∧ win r.txn = true ∧ p = (r.page, r.cell) => k x.1)]
theorem cells_ext {a b : List Int} (ha : a.length = 9) (hb : b.length = 9) (h : ∀ p, InP p → a.getD (p.1.toNat * 3 + p.2.toNat) 0 = b.getD (p.1.toNat * 3 + p.2.toNat) 0) : a = b := by
 match a, ha, b, hb with
 | [a0, a1, a2, a3, a4, a5, a6, a7, a8], _, [b0, b1, b2, b3, b4, b5, b6, b7, b8], _ =>
  have h0 := h (0, 0) (by decide)
  have h1 := h (0, 1) (by decide)
  have h2 := h (0, 2) (by decide)
  have h3 := h (1, 0) (by decide)
  have h4 := h (1, 1) (by decide)
  have h5 := h (1, 2) (by decide)
  have h6 := h (2, 0) (by decide)
  have h7 := h (2, 1) (by decide)
  have h8 := h (2, 2) (by decide)
  simp at h0 h1 h2 h3 h4 h5 h6 h7 h8
  subst h0 h1 h2 h3 h4 h5 h6 h7 h8
  rfl
theorem wonB_other {l : List Rc} {r : Rc} (k : r.kind ≠ 2) : wonB (l ++ [r]) = wonB l := by
 funext t
 have hb : (r.kind == 2) = false := by simpa using k
 unfold wonB
 rw [countR_snoc, hb, Bool.and_false]; rfl
theorem wonB_commit {l : List Rc} {r : Rc} (k : r.kind = 2) : wonB (l ++ [r]) = fun t => wonB l t || r.txn == t := by
 funext t
 unfold wonB
 rw [countR_snoc, k, beq_self_eq_true, Bool.and_true]
 cases r.txn == t <;> simp
theorem cellsR_other {l : List Rc} {r : Rc} (hf : followsR l r = true) (k : r.kind ≠ 2) : cellsR (l ++ [r]) = cellsR l := by
 unfold cellsR
 rw [wonB_other k, cellsBy_snoc]
 by_cases k1 : r.kind = 1
 ·obtain ⟨_, s4, s2, _⟩ := follows_ok hf
  have hc := state_not2 s4 (fun e => by have := s2 e; omega)
  have : wonB l r.txn = false := by unfold wonB; rw [hc]; rfl
  rw [this, Bool.and_false]; rfl
 ·have hb : (r.kind == 1) = false := by simpa using k1
  rw [hb]; rfl
theorem cellsR_commit (l : List Rc) {r : Rc} (k : r.kind = 2) : cellsR (l ++ [r]) = cellsBy (fun t => wonB l t || r.txn == t) l := by
 unfold cellsR
 rw [wonB_commit k, cellsBy_snoc, k]; rfl
theorem held0 {l : List Rc} {t : Int} (h : stateR l t = 0) (p : Int × Int) : heldBy l p t = 0 := by
 have h0 : lastR l t = 0 := by
  by_cases h0 : lastR l t = 0
  ·exact h0
  ·unfold stateR at h
   rw [if_neg h0] at h
   split at h
   ·omega
   ·split at h
    ·omega
    ·split at h <;> omega
 by_cases hh : heldBy l p t = 0
 ·exact hh
 ·obtain ⟨r, hr, _⟩ := held_pos.1 (show 0 < heldBy l p t by omega)
  obtain ⟨h1, h2, _⟩ := standB_mem hr
  exact absurd h2 (last_none t l h0 r h1)
theorem follows_end {l : List Rc} {r : Rc} (k : r.kind = 4) (hf : followsR l r = true) : stateR l r.txn = 2 ∨ (stateR l r.txn = 3 ∧ standB l r.txn = []) := by
 unfold followsR at hf
 split at hf
 ·cases hf
 ·simp only [k, show ((4 : Int) == 1) = false from rfl, show ((4 : Int) == 2) = false from rfl, show ((4 : Int) == 3) = false from rfl, Bool.false_eq_true, if_false, Bool.or_eq_true, beq_iff_eq, Bool.and_eq_true, List.isEmpty_iff] at hf
  rcases hf with h | ⟨h3, hs⟩
  ·exact Or.inl h
  ·refine Or.inr ⟨h3, ?_⟩
   rw [stand_of_n4 (by omega)]
   unfold standRecs
   rw [hs]; rfl
theorem held_write {l : List Rc} {r : Rc} (he : recErr (l.length + 1 : Nat) r = 0) (hf : followsR l r = true) (k : r.kind = 1) (p : Int × Int) : heldBy (l ++ [r]) p r.txn = if p = (r.page, r.cell) then heldBy l p r.txn + 1 else heldBy l p r.txn := by
 rw [heldBy_cnt, standB_write he hf k, cnt_snoc]; rfl
theorem cell_kept {l : List Rc} {r : Rc} (hR : Right l) (he : recErr (l.length + 1 : Nat) r = 0) (hf : followsR l r = true) {p : Int × Int} (hp : InP p) {t : Int} (ht : r.txn ≠ t) (h : 0 < heldBy l p t) : ¬ (turns r = true ∧ p = (r.page, r.cell)) ∧ cellR (l ++ [r]) p = cellR l p := by
 have hn : ¬ (turns r = true ∧ p = (r.page, r.cell)) := by
  rintro ⟨h1, h2⟩
  rcases turns_of.1 h1 with k | k
  ·have := taken_none hR (follows_write k hf) (u := t) (fun e => ht e.symm)
   rw [← h2] at this; omega
  ·obtain ⟨st, w, hst, e1, e2, _⟩ := back_last' hf k
   have : 0 < heldBy l p r.txn := by rw [heldBy_cnt, hst, cnt_snoc, if_pos (by rw [h2, e1, e2])]; omega
   exact ht (right_alone l hR p r.txn t this h)
 exact ⟨hn, by rw [cellR_snoc he hp, if_neg hn]⟩
theorem state01 {l : List Rc} {r : Rc} (hf : followsR l r = true) (k : r.kind = 1 ∨ r.kind = 2) : stateR l r.txn = 0 ∨ stateR l r.txn = 1 := by
 obtain ⟨_, s4, s2, s3⟩ := follows_ok hf
 have n2 : stateR l r.txn ≠ 2 := fun e => by have := s2 e; omega
 have n3 : stateR l r.txn ≠ 3 := fun e => by have := s3 e; omega
 have := stateR_range l r.txn
 omega
theorem cellW_one (win : Int → Bool) (t : Int) : ∀ l, Right l → (stateR l t = 0 ∨ stateR l t = 1) → ∀ p, InP p → cellW (fun u => win u || t == u) l p = if 0 < heldBy l p t then cellR l p else cellW win l p := right_ind _
 (fun _ p _ => by rw [heldBy_cnt, stand_nil']; rfl)
 fun l r hR ih he hf hs p hp => by
  rw [stateR_snoc he hf] at hs
  rw [cellW_snoc he hp, cellW_snoc he hp]
  by_cases ht : r.txn = t
  ·rw [if_pos ht] at hs
   have hk := recErr_kind he
   have k : r.kind = 1 := by omega
   have hs0 := state01 hf (Or.inl k)
   subst ht
   rw [held_write he hf k]
   by_cases e : p = (r.page, r.cell)
   ·rw [if_pos ⟨k, by simp, e⟩, if_pos e, if_pos (by omega), cellR_snoc he hp, if_pos ⟨turns_of.2 (Or.inl k), e⟩]
   ·have hn : ¬ (r.kind = 1 ∧ win r.txn = true ∧ p = (r.page, r.cell)) := fun x => e x.2.2
    have hn2 : ¬ (turns r = true ∧ p = (r.page, r.cell)) := fun x => e x.2
    rw [if_neg (fun x => e x.2.2), if_neg e, ih hs0 p hp, cellR_snoc he hp, if_neg hn2, if_neg hn]
  ·rw [if_neg ht] at hs
   have hb : (t == r.txn) = false := by simpa using (fun e => ht e.symm : t ≠ r.txn)
   simp only [hb, Bool.or_false]
   rw [held_other he hf ht, ih hs p hp]
   by_cases h0 : 0 < heldBy l p t
   ·obtain ⟨hn, hc⟩ := cell_kept hR he hf hp ht h0
    rw [if_pos h0, if_pos h0, if_neg (fun x => hn ⟨turns_of.2 (Or.inl x.1), x.2.2⟩), hc]
   ·rw [if_neg h0, if_neg h0]
theorem mustR_commit {l : List Rc} {r : Rc} (hR : Right l) (hf : followsR l r = true) (k : r.kind = 2) {p : Int × Int} (hp : InP p) : mustR (l ++ [r]) p = if 0 < heldBy l p r.txn then cellR l p else mustR l p := by
 rw [mustR, cellsR_commit l k]
 exact cellW_one (wonB l) r.txn l hR (state01 hf (Or.inr k)) p hp
theorem mustR_other {l : List Rc} {r : Rc} (hf : followsR l r = true) (k : r.kind ≠ 2) (p : Int × Int) : mustR (l ++ [r]) p = mustR l p := by
 rw [mustR, cellsR_other hf k]; rfl
abbrev Hangs (l : List Rc) (t : Int) : Prop := stateR l t = 1 ∨ stateR l t = 3
def Must (l : List Rc) : Prop := ∀ p, InP p → (∀ t, Hangs l t → 0 < heldBy l p t → linked (mustR l p) (atP (standB l t) p) (cellR l p)) ∧ ((∀ t, Hangs l t → heldBy l p t = 0) → mustR l p = cellR l p)
theorem right_must : ∀ l, Right l → Must l := right_ind _
 (fun p hp => ⟨fun t _ h => by rw [heldBy_cnt, stand_nil'] at h; exact absurd h (Nat.lt_irrefl 0), fun _ => by
  obtain ⟨p1, p2⟩ := p
  obtain ⟨h1, h2, h3, h4⟩ := hp
  dsimp only at h1 h2 h3 h4
  have hp1 : p1 = 0 ∨ p1 = 1 ∨ p1 = 2 := by omega
  have hp2 : p2 = 0 ∨ p2 = 1 ∨ p2 = 2 := by omega
  rcases hp1 with rfl | rfl | rfl <;> rcases hp2 with rfl | rfl | rfl <;> rfl⟩)
 fun l r hR ih he hf p hp => by
  obtain ⟨i1, i2⟩ := ih p hp
  rcases recErr_kind he with k | k | k | k
  ·
   rw [mustR_other hf (by omega)]
   have hs := state01 hf (Or.inl k)
   have hheld : ∀ q, 0 < heldBy l q r.txn → stateR l r.txn = 1 := fun q h => by
    rcases hs with h0 | h1
    ·have := held0 h0 q; omega
    ·exact h1
   by_cases e : p = (r.page, r.cell)
   ·have hno : ∀ u, u ≠ r.txn → heldBy l p u = 0 := fun u hu => by have := taken_none hR (follows_write k hf) hu; rw [← e] at this; exact this
    have hlink : linked (mustR l p) (atP (standB l r.txn) p) r.old := by
     rw [follows_old k hf, ← e]
     by_cases h0 : 0 < heldBy l p r.txn
     ·exact i1 r.txn (Or.inl (hheld p h0)) h0
     ·rw [atP_none (by omega)]
      refine i2 fun t _ => ?_
      by_cases ht : t = r.txn
      ·rw [ht]; omega
      ·exact hno t ht
    refine ⟨fun t _ h => ?_, fun h => ?_⟩
    ·by_cases ht : r.txn = t
     ·subst ht
      rw [standB_write he hf k, atP_snoc, if_pos e, linked_snoc, cellR_snoc he hp, if_pos ⟨turns_of.2 (Or.inl k), e⟩]
      exact ⟨hlink, rfl⟩
     ·rw [held_other he hf ht, hno t (fun x => ht x.symm)] at h
      exact absurd h (Nat.lt_irrefl 0)
    ·have := h r.txn (Or.inl (by rw [stateR_snoc he hf, if_pos rfl, k]))
     rw [held_write he hf k, if_pos e] at this
     omega
   ·have hc : cellR (l ++ [r]) p = cellR l p := by rw [cellR_snoc he hp, if_neg (fun x => e x.2)]
    rw [hc]
    have hh : ∀ t, heldBy (l ++ [r]) p t = heldBy l p t := fun t => by
     by_cases ht : r.txn = t
     ·subst ht; rw [held_write he hf k, if_neg e]
     ·rw [held_other he hf ht]
    refine ⟨fun t hg h => ?_, fun h => i2 fun t hg => ?_⟩
    ·rw [hh] at h
     by_cases ht : r.txn = t
     ·subst ht
      rw [standB_write he hf k, atP_snoc, if_neg e]
      exact i1 _ (Or.inl (hheld p h)) h
     ·rw [standB_other he hf ht]
      refine i1 t ?_ h
      simpa only [Hangs, stateR_snoc he hf, if_neg ht] using hg
    ·rw [← hh]
     refine h t ?_
     by_cases ht : r.txn = t
     ·exact Or.inl (by rw [stateR_snoc he hf, if_pos ht, k])
     ·simpa only [Hangs, stateR_snoc he hf, if_neg ht] using hg
  ·
   have hc : cellR (l ++ [r]) p = cellR l p := by rw [cellR_snoc he hp, if_neg (fun x => by have := turns_of.1 x.1; omega)]
   rw [mustR_commit hR hf k hp, hc]
   have hst : ∀ t, standB (l ++ [r]) t = standB l t := fun t => by
    by_cases ht : r.txn = t
    ·subst ht; rw [standB_commit he hf k]
    ·rw [standB_other he hf ht]
   have hh : ∀ t, heldBy (l ++ [r]) p t = heldBy l p t := fun t => by rw [heldBy_cnt, hst]; rfl
   have hng : ∀ t, Hangs (l ++ [r]) t → r.txn ≠ t ∧ Hangs l t := fun t hg => by
    by_cases ht : r.txn = t
    ·simp only [Hangs, stateR_snoc he hf, if_pos ht] at hg; omega
    ·exact ⟨ht, by simpa only [Hangs, stateR_snoc he hf, if_neg ht] using hg⟩
   refine ⟨fun t hg h => ?_, fun h => ?_⟩
   ·obtain ⟨ht, hg⟩ := hng t hg
    rw [hh] at h
    rw [hst, if_neg (fun h2 => ht (right_alone l hR p r.txn t h2 h))]
    exact i1 t hg h
   ·by_cases h0 : 0 < heldBy l p r.txn
    ·rw [if_pos h0]
    ·rw [if_neg h0]
     refine i2 fun t hg => ?_
     by_cases ht : r.txn = t
     ·rw [← ht]; omega
     ·rw [← hh]
      exact h t (by simpa only [Hangs, stateR_snoc he hf, if_neg ht] using hg)
  ·
   rw [mustR_other hf (by omega)]
   obtain ⟨_, s4, s2, _⟩ := follows_ok hf
   obtain ⟨st, w, hst, e1, e2, e3⟩ := back_last' hf k
   have hnew : standB (l ++ [r]) r.txn = st := by rw [standB_back hR he hf k, hst, List.dropLast_concat]
   have hhold : 0 < heldBy l (r.page, r.cell) r.txn := by rw [heldBy_cnt, hst, cnt_snoc, if_pos (by rw [e1, e2])]; omega
   have hu : Hangs l r.txn := by
    have h2 : stateR l r.txn ≠ 2 := fun e => by have := s2 e; omega
    have h0 : stateR l r.txn ≠ 0 := fun e => by have := held0 e (r.page, r.cell); omega
    have := stateR_range l r.txn
    rcases this with h | h | h | h | h
    ·exact absurd h h0
    ·exact Or.inl h
    ·exact absurd h h2
    ·exact Or.inr h
    ·exact absurd h s4
   have hu' : Hangs (l ++ [r]) r.txn := Or.inr (by rw [stateR_snoc he hf, if_pos rfl, k])
   by_cases e : p = (r.page, r.cell)
   ·have hlink : linked (mustR l p) (atP (standB (l ++ [r]) r.txn) p) (cellR (l ++ [r]) p) := by
     have := i1 r.txn hu (by rw [e]; exact hhold)
     rw [hst, atP_snoc, if_pos (by rw [e, e1, e2]), linked_snoc] at this
     rw [hnew, cellR_snoc he hp, if_pos ⟨turns_of.2 (Or.inr k), e⟩, e3]
     exact this.1
    refine ⟨fun t hg h => ?_, fun h => ?_⟩
    ·by_cases ht : r.txn = t
     ·subst ht; exact hlink
     ·rw [held_other he hf ht] at h
      exact absurd (right_alone l hR p r.txn t (by rw [e]; exact hhold) h) ht
    ·rw [atP_none (h r.txn hu')] at hlink
     exact hlink
   ·have hc : cellR (l ++ [r]) p = cellR l p := by rw [cellR_snoc he hp, if_neg (fun x => e x.2)]
    rw [hc]
    have hat : ∀ t, atP (standB (l ++ [r]) t) p = atP (standB l t) p := fun t => by
     by_cases ht : r.txn = t
     ·subst ht; rw [hnew, hst, atP_snoc, if_neg (fun x => e (by rw [x, e1, e2]))]
     ·rw [standB_other he hf ht]
    have hh : ∀ t, heldBy (l ++ [r]) p t = heldBy l p t := fun t => congrArg List.length (hat t)
    have hng : ∀ t, Hangs (l ++ [r]) t ↔ Hangs l t := fun t => by
     by_cases ht : r.txn = t
     ·subst ht; exact ⟨fun _ => hu, fun _ => hu'⟩
     ·simp only [Hangs, stateR_snoc he hf, if_neg ht]
    refine ⟨fun t hg h => ?_, fun h => i2 fun t hg => ?_⟩
    ·rw [hat]; rw [hh] at h; exact i1 t ((hng t).1 hg) h
    ·rw [← hh]; exact h t ((hng t).2 hg)
  ·
   rw [mustR_other hf (by omega)]
   have hc : cellR (l ++ [r]) p = cellR l p := by rw [cellR_snoc he hp, if_neg (fun x => by have := turns_of.1 x.1; omega)]
   rw [hc]
   have hng : ∀ t, Hangs (l ++ [r]) t → r.txn ≠ t ∧ Hangs l t := fun t hg => by
    by_cases ht : r.txn = t
    ·simp only [Hangs, stateR_snoc he hf, if_pos ht] at hg; omega
    ·exact ⟨ht, by simpa only [Hangs, stateR_snoc he hf, if_neg ht] using hg⟩
   refine ⟨fun t hg h => ?_, fun h => i2 fun t hg => ?_⟩
   ·obtain ⟨ht, hg⟩ := hng t hg
    rw [standB_other he hf ht]
    rw [held_other he hf ht] at h
    exact i1 t hg h
   ·by_cases ht : r.txn = t
    ·subst ht
     rcases follows_end k hf with h2 | ⟨_, hs⟩
     ·rcases hg with h | h <;> omega
     ·rw [heldBy_cnt, hs]; rfl
    ·rw [← held_other he hf ht]
     exact h t (by simpa only [Hangs, stateR_snoc he hf, if_neg ht] using hg)
theorem right_calm {l : List Rc} (hR : Right l) (h : ∀ t, 1 ≤ t → t ≤ 9 → ¬ Hangs l t) {p : Int × Int} (hp : InP p) : mustR l p = cellR l p := by
 refine (right_must l hR p hp).2 fun t hg => ?_
 by_cases h1 : 1 ≤ t ∧ t ≤ 9
 ·exact absurd hg (h t h1.1 h1.2)
 ·by_cases hh : heldBy l p t = 0
  ·exact hh
  ·obtain ⟨r, hr, _⟩ := held_pos.1 (show 0 < heldBy l p t by omega)
   obtain ⟨hm, ht, _⟩ := standB_mem hr
   have := right_txn l hR r hm
   rw [ht] at this
   exact absurd this h1
end Go.Proofs.YtibfgbmhmdggmaaGreatDoor.B
